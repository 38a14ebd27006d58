/- THE WALKS of package quota: Take, Back, Left; begins; QuotaNil. -/
import Derived.Test.YtddlalljdecdoaaBi
import Derived.Laws.StructEq
namespace Go.Proofs.Ytddlalljdecdoaa
open Go Go.RowKit
set_option maxHeartbeats 1600000
set_option maxRecDepth 100000
/-- an operation done whole -/
def wholeB (ba : Int) (ws : List Int) (k : Int) (wk : Nat) : List Int × OpB := runB ba (ws.length + 5) (ws, newB k wk)
def ansB (ba : Int) (ws : List Int) (k : Int) (wk : Nat) : Int := (wholeB ba ws k wk).2.ans
theorem muO_new (n : Nat) (k : Int) (wk : Nat) : muO n (newB k wk) ≤ n + 5 := by
  by_cases h1 : k = 1
  · simp [muO, newB, h1]
  · by_cases h2 : k = 2
    · simp [muO, newB, h2]
    · simp [muO, newB, h1, h2]
theorem runB_length (ba : Int) (m : Nat) (ws : List Int) (o : OpB) : (runB ba m (ws, o)).1.length = ws.length := by
  induction m generalizing ws o with
  | zero => rfl
  | succ m ih => unfold runB; rw [ih]; exact stepBW_length _ _ _
theorem wholeB_length (ba : Int) (ws : List Int) (k : Int) (wk : Nat) : (wholeB ba ws k wk).1.length = ws.length := runB_length _ _ _ _
theorem wholeB_ends {w : World} {bq bk bw n wk : Nat} {ba : Int} {ws : List Int} {k : Int} (h : QuoM w bq bk bw ba ws) (hn : ws.length = n + 1) (hf : FineB n k wk) : (wholeB ba ws k wk).2.ph = 9 :=
  runB_ends (AloneB.new _ _ _) (by rw [hn]; exact OkB.new hf) h.words.ok h.least h.lowb _ (muO_new _ _ _)
theorem bdo_whole {w : World} {bq bk bw n wk : Nat} {ba : Int} {ws : List Int} {k : Int} (h : QuoM w bq bk bw ba ws) (hn : ws.length = n + 1) (hf : FineB n k wk) :
    Calls Try.prog 36 #[.pointer (some ⟨bq, 0, none⟩), .agg #[.int .u8 k, .int .i64 (wk : Int)]] w (WholeB w bq bk bw ba (wholeB ba ws k wk).1 (.tuple #[.int .i64 (ansB ba ws k wk), .int .i64 0])) :=
  bdo_op h hn hf rfl (wholeB_ends h hn hf)
section
variable {w : World} {bq bk bw n wk : Nat} {ba i : Int} {ws : List Int}
theorem btake_yes (h : QuoM w bq bk bw ba ws) (hn : ws.length = n + 1) (hf : wk < n) :
    Calls Try.prog 22 #[.pointer (some ⟨bq, 0, none⟩), .int .i64 (wk : Int)] w (WholeB w bq bk bw ba (wholeB ba ws 1 wk).1 (.tuple #[.bool (ansB ba ws 1 wk == 1), .int .i64 0])) := by
  have H := Lib.hid (bdo_whole h hn (.inl ⟨rfl, hf⟩))
  clear h hn hf
  go_enter Try.func22, Try.ntmps22
  go_wp2_with (go_at_call 36; (with_reducible refine H.out.mono ?_); rintro e w1 ⟨rfl, hQ, hP⟩; have HQ := Lib.hid hQ; have HP := Lib.hid hP; clear hQ hP)
  go_ret2
  exact ⟨rfl, HQ.out, HP.out⟩
theorem btake_no (h : QuoM w bq bk bw ba ws) (hn : ws.length = n + 1) (hr : rightB n 1 i = false) :
    Calls Try.prog 22 #[.pointer (some ⟨bq, 0, none⟩), .int .i64 i] w fun e w' => e = .returned (.tuple #[.bool false, .int .i64 2]) ∧ Below w.heap.size w w' := by
  have H := Lib.hid (bdo_no h hn hr)
  clear h hn hr
  go_enter Try.func22, Try.ntmps22
  go_wp2_with (go_at_call 36; (with_reducible refine H.out.mono ?_); rintro e w1 ⟨rfl, hQ⟩; have HQ := Lib.hid hQ; clear hQ)
  go_ret2
  exact ⟨rfl, HQ.out⟩
theorem btake_nil : Calls Try.prog 22 #[.pointer none, .int .i64 i] w fun e w' => e = .returned (.tuple #[.bool false, .int .i64 1]) ∧ Below w.heap.size w w' := by
  go_enter Try.func22, Try.ntmps22
  go_wp2_with (go_at_call 36; refine bdo_nil.mono ?_; rintro e w1 ⟨rfl, hQ⟩; have HQ := Lib.hid hQ; clear hQ)
  go_ret2
  exact ⟨rfl, HQ.out⟩
theorem bback_yes (h : QuoM w bq bk bw ba ws) (hn : ws.length = n + 1) (hf : wk < n) :
    Calls Try.prog 23 #[.pointer (some ⟨bq, 0, none⟩), .int .i64 (wk : Int)] w (WholeB w bq bk bw ba (wholeB ba ws 2 wk).1 (.tuple #[.int .i64 (ansB ba ws 2 wk), .int .i64 0])) := by
  have H := Lib.hid (bdo_whole h hn (.inr (.inl ⟨rfl, hf⟩)))
  clear h hn hf
  go_enter Try.func23, Try.ntmps23
  go_wp2_with (go_at_call 36; (with_reducible refine H.out.mono ?_); rintro e w1 ⟨rfl, hQ, hP⟩; have HQ := Lib.hid hQ; have HP := Lib.hid hP; clear hQ hP)
  go_ret2
  exact ⟨rfl, HQ.out, HP.out⟩
theorem bback_no (h : QuoM w bq bk bw ba ws) (hn : ws.length = n + 1) (hr : rightB n 2 i = false) :
    Calls Try.prog 23 #[.pointer (some ⟨bq, 0, none⟩), .int .i64 i] w fun e w' => e = .returned (.tuple #[.int .i64 0, .int .i64 2]) ∧ Below w.heap.size w w' := by
  have H := Lib.hid (bdo_no h hn hr)
  clear h hn hr
  go_enter Try.func23, Try.ntmps23
  go_wp2_with (go_at_call 36; (with_reducible refine H.out.mono ?_); rintro e w1 ⟨rfl, hQ⟩; have HQ := Lib.hid hQ; clear hQ)
  go_ret2
  exact ⟨rfl, HQ.out⟩
theorem bback_nil : Calls Try.prog 23 #[.pointer none, .int .i64 i] w fun e w' => e = .returned (.tuple #[.int .i64 0, .int .i64 1]) ∧ Below w.heap.size w w' := by
  go_enter Try.func23, Try.ntmps23
  go_wp2_with (go_at_call 36; refine bdo_nil.mono ?_; rintro e w1 ⟨rfl, hQ⟩; have HQ := Lib.hid hQ; clear hQ)
  go_ret2
  exact ⟨rfl, HQ.out⟩
theorem bleft_yes (h : QuoM w bq bk bw ba ws) (hn : ws.length = n + 1) :
    Calls Try.prog 24 #[.pointer (some ⟨bq, 0, none⟩)] w (WholeB w bq bk bw ba (wholeB ba ws 3 0).1 (.int .i64 (ansB ba ws 3 0))) := by
  have H0 : Calls Try.prog 36 #[.pointer (some ⟨bq, 0, none⟩), .agg #[.int .u8 3, .int .i64 0]] w (WholeB w bq bk bw ba (wholeB ba ws 3 0).1 (.tuple #[.int .i64 (ansB ba ws 3 0), .int .i64 0])) := bdo_whole h hn (.inr (.inr ⟨rfl, rfl⟩))
  have H := Lib.hid H0
  clear h hn H0
  go_enter Try.func24, Try.ntmps24
  go_wp2_with (go_at_call 36; (with_reducible refine H.out.mono ?_); rintro e w1 ⟨rfl, hQ, hP⟩; have HQ := Lib.hid hQ; have HP := Lib.hid hP; clear hQ hP)
  go_ret
  exact ⟨rfl, HQ.out, HP.out⟩
theorem bleft_nil : Calls Try.prog 24 #[.pointer none] w fun e w' => e = .returned (.int .i64 0) ∧ Below w.heap.size w w' := by
  go_enter Try.func24, Try.ntmps24
  go_wp2_with (go_at_call 36; refine bdo_nil.mono ?_; rintro e w1 ⟨rfl, hQ⟩; have HQ := Lib.hid hQ; clear hQ)
  go_ret
  exact ⟨rfl, HQ.out⟩
theorem gather_run (ba : Int) (ws : List Int) (wk : Nat) : ∀ (m c : Nat) (s : Int) (saw hand ans : Int), (runB ba m (ws, ⟨3, wk, 0, saw, hand, c, s, ans⟩)).1 = ws := by
  intro m
  induction m with
  | zero => intro c s saw hand ans; rfl
  | succ m ih =>
    intro c s saw hand ans
    unfold runB
    by_cases e : c + 1 = ws.length
    · rw [show stepB ba ws ⟨3, wk, 0, saw, hand, c, s, ans⟩ = ⟨3, wk, 9, saw, hand, c + 1, IntKind.u64.wrap (s + ws.getD c 0), IntKind.i64.wrap (IntKind.u64.wrap (s + ws.getD c 0))⟩ by simp [stepB, e], show stepBW ba ws ⟨3, wk, 0, saw, hand, c, s, ans⟩ = ws by simp [stepBW], runB_over rfl]
    · rw [show stepB ba ws ⟨3, wk, 0, saw, hand, c, s, ans⟩ = ⟨3, wk, 0, saw, hand, c + 1, IntKind.u64.wrap (s + ws.getD c 0), ans⟩ by simp [stepB, e], show stepBW ba ws ⟨3, wk, 0, saw, hand, c, s, ans⟩ = ws by simp [stepBW]]
      exact ih _ _ _ _ _
theorem left_same (ba : Int) (ws : List Int) : (wholeB ba ws 3 0).1 = ws := gather_run _ _ _ _ _ _ _ _ _
end
/-- begins: new things alone -/
theorem begins_any (w : World) : Calls Try.prog 12 #[] w fun e w' => e = .returned (.bool true) ∧ Below w.heap.size w w' := by
  have HF : Hid (FitsB 5 2 ((2 : Nat) : Int)) := Lib.hid (by decide)
  have HN : Hid ((startW 5 2).length = 2 + 1) := Lib.hid rfl
  have T1 : Hid ((wholeB 2 (startW 5 2) 1 0).1 = [3, 1, 0]) := Lib.hid (by decide +kernel)
  have T2 : Hid (ansB 2 (startW 5 2) 1 0 = 1) := Lib.hid (by decide +kernel)
  have B1 : Hid ((wholeB 2 [3, 1, 0] 2 0).1 = [4, 0, 0]) := Lib.hid (by decide +kernel)
  have B2 : Hid (ansB 2 [3, 1, 0] 2 0 = 1) := Lib.hid (by decide +kernel)
  have L2 : Hid (ansB 2 [4, 0, 0] 3 0 = 4) := Lib.hid (by decide +kernel)
  go_enter Try.func12, Try.ntmps12
  go_wp2_with (first
    | (go_at_call 10; refine (qnew_yes (n := 2) HF.out _).mono ?_; rintro e w1 ⟨bq, bk, bw, rfl, g1, g2, g3, hQ, hb⟩; have HQ := Lib.hid hQ; have HB1 := Lib.hid hb; have G3 := Lib.hid g3; clear hQ hb g1 g2 g3)
    | (go_at_call 22; refine (btake_yes (wk := 0) HQ.out HN.out (by omega)).mono ?_; rw [T1.out, T2.out]; rintro e w2 ⟨rfl, hQ, hP⟩; have HQ2 := Lib.hid hQ; have HP2 := Lib.hid hP; clear hQ hP)
    | (go_at_call 21; refine (qall_any HQ2.out).mono ?_; rintro e w3 ⟨bl, rfl, hn, hr, hb⟩; have HNL := Lib.hid hn; have HR := Lib.hid hr; have HB3 := Lib.hid hb; have HQ3 := Lib.hid (HQ2.out.on hb); have hbw2 := HQ2.out.words.row.lt; have HNW : Hid (bl ∉ [bw]) := Lib.hid (by simp; omega); clear hn hr hb hbw2)
    | (go_at_call 23; refine (bback_yes (n := 2) (wk := 0) HQ3.out rfl (by omega)).mono ?_; rw [B1.out, B2.out]; rintro e w4 ⟨rfl, hQ, hP⟩; have HQ4 := Lib.hid hQ; have HP4 := Lib.hid hP; have hr4 := HR.out.part hP HNW.out; have r0 : w4.cell? ⟨bl, 0, none⟩ = some (.int .u64 3) := hr4.cell 0; have r1 : w4.cell? ⟨bl, 1, none⟩ = some (.int .u64 1) := hr4.cell 1; have rlt := hr4.lt; clear hQ hP hr4)
    | (go_at_call 24; refine (bleft_yes (n := 2) HQ4.out rfl).mono ?_; rw [L2.out]; rintro e w5 ⟨rfl, hQ, hP⟩; have HP5 := Lib.hid hP; clear hQ hP))
  go_ret
  refine ⟨by simp, ?_⟩
  have p : Part [bw] w w5 := Part.then_ (Part.then_ (Part.then_ (Part.then_ (Part.of_below HB1.out (Nat.le_refl _) _) HP2.out) (Part.of_below HB3.out (Nat.le_refl _) _)) HP4.out) HP5.out
  exact p.below (Nat.le_refl _) (fun k hk => by simp at hk; subst hk; exact G3.out)
theorem nil_walk (k i : Int) (w : World) : Calls Try.prog 5 #[.agg #[.int .u8 k, .int .i64 i]] w fun e w' => e = .returned (.bool true) ∧ Below w.heap.size w w' := by
  go_enter Try.func5, Try.ntmps5
  go_wp2_with (first
    | (go_at_call 22; refine btake_nil.mono ?_; rintro e w1 ⟨rfl, hb⟩; have HB1 := Lib.hid (((Below.refl w.heap.size w).alloc (Nat.le_refl _) _).trans (hb.mono (by simp))); have a1 := ((Row.new w 37 [.int .u8 k, .int .i64 i]).below hb (by simp)); obtain ⟨o0, o1⟩ := a1.two_cells; have R1 := Lib.hid a1; clear a1 hb)
    | (go_at_call 23; refine bback_nil.mono ?_; rintro e w2 ⟨rfl, hb⟩; have HB2 := Lib.hid (HB1.out.trans (hb.mono HB1.out.size)); have a1 := R1.out.below hb R1.out.lt; obtain ⟨o0, o1⟩ := a1.two_cells; have R2 := Lib.hid a1; clear a1 hb)
    | (go_at_call 13; refine bstart_nil.mono ?_; rintro e w3 ⟨rfl, hb⟩; have HB3 := Lib.hid (HB2.out.trans (hb.mono HB2.out.size)); clear hb)
    | (go_at_call 16; refine bstep_nil.mono ?_; rintro e w4 ⟨rfl, hb⟩; unfold noDidV; have HB4 := Lib.hid (HB3.out.trans (hb.mono HB3.out.size)); clear hb)
    | (go_at_call 12; refine (begins_any _).mono ?_; rintro e w5 ⟨rfl, hb⟩; have hr3 : Row w5 w4.heap.size 46 [.int .u8 0, .int .i64 0, .int .u64 0, .int .u64 0, .bool false] := (Row.new w4 _ _).below hb (by simp); obtain ⟨d0, d1, d2, d3, d4⟩ := hr3.five; have R5 := Lib.hid hr3; have HB5 := Lib.hid ((HB4.out.alloc HB4.out.size _).trans (hb.mono (by have := HB4.out.size; simp; omega))); clear hr3 hb)
    | (go_at_call 24; refine bleft_nil.mono ?_; rintro e w6 ⟨rfl, hb⟩; have hr3 := R5.out.below hb R5.out.lt; obtain ⟨d0, d1, d2, d3, d4⟩ := hr3.five; have HB6 := Lib.hid (HB5.out.trans (hb.mono HB5.out.size)); clear hr3 hb)
    | (go_at_call 21; refine (qall_nil _).mono ?_; rintro e wx ⟨rfl, rfl⟩)
    | (go_at_call 18; refine (bdone_nil _).mono ?_; rintro e wx ⟨rfl, rfl⟩)
    | (go_at_call 19; refine (banswer_nil _).mono ?_; rintro e wx ⟨rfl, rfl⟩))
  go_ret
  exact ⟨rfl, HB6.out⟩
end Go.Proofs.Ytddlalljdecdoaa
