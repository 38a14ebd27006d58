/- THE WALKS of package snap: Scan; the statements' own question 'begins'; the calls on nil; the law 'SnapNil'. -/
import Derived.Test.YtdadgppbpomdoaaPc
namespace Go.Proofs.Ytdadgppbpomdoaa
open Go Go.RowKit

set_option maxRecDepth 100000
theorem rscan_nil {w : World} {t : Int} :
    Calls Try.prog 24 #[.pointer none, .int .i64 t] w fun e w' => e = .returned (.tuple #[.slice none 0 0, .int .i64 1]) ∧ Below w.heap.size w w' := by
  go_enter Try.func24, Try.ntmps24
  go_wp2_with (go_at_call 29; refine rcheck_nil.mono ?_; rintro e w1 ⟨rfl, hb⟩; have HB := Lib.hid hb; clear hb)
  go_ret2
  exact ⟨rfl, HB.out⟩
theorem rscan_no {w : World} {br bk bw : Nat} {ws : List Int} {t : Int} (h : Regs w br bk bw ws) (hr : rightS ws.length 3 0 0 t = false) :
    Calls Try.prog 24 #[.pointer (some ⟨br, 0, none⟩), .int .i64 t] w fun e w' => e = .returned (.tuple #[.slice none 0 0, .int .i64 2]) ∧ Below w.heap.size w w' := by
  have H := Lib.hid h
  have HR := Lib.hid hr
  clear h hr
  go_enter Try.func24, Try.ntmps24
  go_wp2_with (go_at_call 29; refine (rcheck_no H.out HR.out).mono ?_; rintro e w1 ⟨rfl, hb⟩; have HB := Lib.hid hb; clear hb)
  go_ret2
  exact ⟨rfl, HB.out⟩
theorem rscan_one {w : World} {br bk bw : Nat} {ws : List Int} (h : Regs w br bk bw ws) :
    Calls Try.prog 24 #[.pointer (some ⟨br, 0, none⟩), .int .i64 1] w fun e w' => e = .returned (.tuple #[.slice none 0 0, .int .i64 140]) ∧ Below w.heap.size w w' := by
  have H := Lib.hid h
  have HR : Hid (rightS ws.length 3 0 0 1 = true) := Lib.hid (by simp [rightS])
  clear h
  go_enter Try.func24, Try.ntmps24
  go_wp2_with (first
    | (go_at_call 29; refine (rcheck_yes H.out HR.out).mono ?_; rintro e w1 ⟨rfl, hb⟩; have HB := Lib.hid hb; have H1 := Lib.hid (H.out.on hb); have hc := H1.out.hc; clear hb)
    | (go_at_call 38; refine (all_any H1.out.words).mono ?_; rintro e w2 ⟨b, rfl, hb, hr, hbl⟩; have HL := Lib.hid hbl; clear hb hr hbl))
  refine wp_loop_rounds 1 ?_
  rw [rounds_succ]
  go_wp2
  go_ret2
  exact ⟨rfl, HB.out.trans (HL.out.mono HB.out.size)⟩
/-- what a Scan leaves that is clean -/
def ScanTo (w : World) (xs : List Int) (e : Ending) (w' : World) : Prop :=
  ∃ b, e = .returned (.tuple #[.slice (some ⟨b, 0, none⟩) xs.length xs.length, .int .i64 0]) ∧ w.heap.size ≤ b ∧ Row w' b 60 (regCells xs) ∧ Below w.heap.size w w'
theorem rscan_any {w : World} {br bk bw : Nat} {ws : List Int} (h : Regs w br bk bw ws) {t : Int} (h1 : 2 ≤ t) (h2 : t ≤ 1024) :
    Calls Try.prog 24 #[.pointer (some ⟨br, 0, none⟩), .int .i64 t] w (ScanTo w ws) := by
  have H := Lib.hid h
  have HR : Hid (rightS ws.length 3 0 0 t = true) := Lib.hid (by simp [rightS]; omega)
  have ht : 0 < t - 1 := by omega
  have HN := Lib.hid (show ws.length ≤ 65536 by have := h.top; omega)
  clear h
  go_enter Try.func24, Try.ntmps24
  go_wp2_with (first
    | (go_at_call 29; refine (rcheck_yes H.out HR.out).mono ?_; rintro e w1 ⟨rfl, hb⟩; have HB := Lib.hid hb; have H1 := Lib.hid (H.out.on hb); have hc := H1.out.hc; clear hb)
    | (go_at_call 38; refine (all_any H1.out.words).mono ?_; rintro e w2 ⟨b, rfl, hb, hr, hbl⟩; have HL := Lib.hid hbl; have HB2 := Lib.hid hr; have H2 := Lib.hid (H1.out.on hbl); have hc2 := H2.out.hc; clear hb hr hbl))
  refine wp_loop_rounds 1 ?_
  rw [rounds_succ]
  go_wp2_with (first
    | (go_at_call 38; refine (all_any H2.out.words).mono ?_; rintro e w3 ⟨b3, rfl, hb, hr, hbl⟩; have HL3 := Lib.hid hbl; have HB3 := Lib.hid hr; have HC3 := Lib.hid (HB2.out.below hbl HB2.out.lt); clear hb hr hbl)
    | (go_at_call 43; refine (equal_any HB3.out.lies HC3.out.lies rfl rfl HN.out).mono ?_; rw [decide_eq_true rfl]; rintro e w4 ⟨rfl, m, rfl⟩)
    | (go_at_call 37; refine (regsof_any (HB3.out.drewN m).lies HB3.out.lt H.out.words.ok HN.out).mono ?_; rintro e w5 ⟨b5, rfl, hb, hr, hbl⟩; have HL5 := Lib.hid hbl; have HB5 := Lib.hid hb; have HR5 := Lib.hid hr; clear hb hr hbl))
  go_ret2
  have hB3 : Below w.heap.size w w3 := HB.out.trans ((HL.out.trans (HL3.out.mono HL.out.size)).mono HB.out.size)
  have hB5 : Below w.heap.size w w5 := (Below.draws hB3 m).trans (HL5.out.mono hB3.size)
  exact ⟨b5, rfl, Nat.le_trans hB3.size HB5.out, HR5.out, hB5⟩

theorem rb_new (w : World) : Calls Try.prog 10 #[.int .i64 2] w (FreshR w 2) := rnew_yes w (n := 2) (by omega) (by omega)
theorem rb_put5 {w : World} {br bk bw : Nat} (h : Regs w br bk bw (List.replicate 2 0)) :
    Calls Try.prog 22 #[.pointer (some ⟨br, 0, none⟩), .int .i64 0, .int .u32 5] w (PutTo w br bk bw [4294967301, 0] (.tuple #[.agg #[.int .u32 1, .int .u32 5], .int .i64 0])) :=
  rput_any h (i := 0) (x := 0) (v := 5) rfl (by unfold U32; omega)
theorem rb_put7 {w : World} {br bk bw : Nat} (h : Regs w br bk bw [4294967301, 0]) :
    Calls Try.prog 22 #[.pointer (some ⟨br, 0, none⟩), .int .i64 0, .int .u32 7] w (PutTo w br bk bw [8589934599, 0] (.tuple #[.agg #[.int .u32 2, .int .u32 7], .int .i64 0])) :=
  rput_any h (i := 0) (x := 4294967301) (v := 7) rfl (by unfold U32; omega)
theorem rb_scan {w : World} {br bk bw : Nat} (h : Regs w br bk bw [8589934599, 0]) :
    Calls Try.prog 24 #[.pointer (some ⟨br, 0, none⟩), .int .i64 2] w fun e w' => ∃ b, e = .returned (.tuple #[.slice (some ⟨b, 0, none⟩) 2 2, .int .i64 0]) ∧ w.heap.size ≤ b ∧ Row w' b 60 [.int .u32 2, .int .u32 7, .int .u32 0, .int .u32 0] ∧ Below w.heap.size w w' :=
  rscan_any h (by omega) (by omega)

set_option maxHeartbeats 1600000 in
theorem rbegins_any (w : World) : Calls Try.prog 11 #[] w fun e w' => e = .returned (.bool true) ∧ Below w.heap.size w w' := by
  go_enter Try.func11, Try.ntmps11
  go_wp2_with (first
    | (go_at_call 10; refine (rb_new _).mono ?_; rintro e w1 ⟨br, bk, bw, rfl, _, _, hw, hS, hb⟩; have HW := Lib.hid hw; have HS := Lib.hid hS; have HB := Lib.hid hb; clear hw hS hb)
    | (go_at_call 22; (with_reducible refine (rb_put5 HS.out).mono ?_); rintro e w2 ⟨rfl, hS2, hP2⟩; have HS2 := Lib.hid hS2; have HP2 := Lib.hid hP2; clear hS2 hP2)
    | (go_at_call 22; (with_reducible refine (rb_put7 (HS2.out.alloc _)).mono ?_); rintro e w3 ⟨rfl, hS3, hP3⟩; have HS3 := Lib.hid hS3; have HP3 := Lib.hid hP3; clear hS3 hP3)
    | (go_at_call 24; (with_reducible refine (rb_scan (HS3.out.alloc _)).mono ?_); rintro e w4 ⟨b, rfl, hb, hr, hbl⟩; have HL4 := Lib.hid hbl; have HR4 := Lib.hid hr; clear hb hr hbl))
  have hlt2 := HS2.out.words.row.lt
  have R1 : Row w3 w2.heap.size 60 [.int .u32 1, .int .u32 5] := (Row.new w2 _ _).part HP3.out (by simp; omega)
  have R1' : Row w4 w2.heap.size 60 [.int .u32 1, .int .u32 5] := (R1.alloc _).below HL4.out (by have := R1.lt; simp; omega)
  have R2 : Row w4 w3.heap.size 60 [.int .u32 2, .int .u32 7] := (Row.new w3 _ _).below HL4.out (by simp)
  have a0 := R1'.cell 0
  have a1 := R1'.cell 1
  have b0 := R2.cell 0
  have b1 := R2.cell 1
  have c0 := HR4.out.cell 0
  have c1 := HR4.out.cell 1
  have c2 := HR4.out.cell 2
  have c3 := HR4.out.cell 3
  clear R1 R1' R2
  go_quiet (fail)
  go_wp2
  go_ret
  have hP : Part [bw] w1 w4 := ((HP2.out.then_ (((Part.refl [bw] w2).alloc _).then_ HP3.out)).alloc _).on HL4.out
  exact ⟨by simp, HB.out.trans ((Below.draws (hP.below (B := w.heap.size) HB.out.size (by simpa using HW.out)) _))⟩

theorem pdone_nil (w : World) : Calls Try.prog 16 #[.pointer none] w fun e w' => e = .returned (.bool true) ∧ w = w' := by
  go_enter Try.func16, Try.ntmps16
  go_wp2
  go_ret
  exact ⟨rfl, rfl⟩
/-- a zero view -/
def noView : Value := .agg #[.slice none 0 0, .bool false, .int .i64 0]
theorem panswer_nil (w : World) : Calls Try.prog 18 #[.pointer none] w fun e w' => e = .returned noView ∧ Below w.heap.size w w' := by
  go_enter Try.func18, Try.ntmps18
  go_wp2
  refine bodyPost_ret (v := noView) (by simp [results, Try.results18, go_sem, noView]) rfl ⟨rfl, ?_⟩
  repeat (first | exact Below.refl _ _ | refine Below.alloc ?_ (by simp; try omega) _ | refine Below.setCell ?_ (by simp) _)
def noDidV : Value := .agg #[.int .u8 0, .int .i64 0, .int .u64 0, .int .u64 0, .bool false]
theorem pstep_nil (w : World) : Calls Try.prog 14 #[.pointer none] w fun e w' => e = .returned (.tuple #[noDidV, .bool true]) ∧ Below w.heap.size w w' := by
  go_enter Try.func14, Try.ntmps14
  go_wp2_with (go_at_call 16; refine (pdone_nil _).mono ?_; rintro e wx ⟨rfl, rfl⟩)
  refine bodyPost_ret (v := .tuple #[noDidV, .bool true]) (by simp [results, Try.results14, go_sem, noDidV]) rfl ⟨rfl, ?_⟩
  repeat (first | exact Below.refl _ _ | refine Below.alloc ?_ (by simp; try omega) _ | refine Below.setCell ?_ (by simp) _)
theorem pstart_nil (k r v t : Int) (w : World) : Calls Try.prog 12 #[.pointer none, .agg #[.int .u8 k, .int .i64 r, .int .u32 v, .int .i64 t]] w fun e w' => e = .returned (.tuple #[.pointer none, .int .i64 1]) ∧ Below w.heap.size w w' := by
  go_enter Try.func12, Try.ntmps12
  go_wp2_with (go_at_call 29; refine rcheck_nil.mono ?_; rintro e w1 ⟨rfl, hb⟩; have HB := Lib.hid hb; clear hb)
  go_ret2
  exact ⟨rfl, ((Part.refl [] w).alloc _ |>.on HB.out).end_⟩
end Go.Proofs.Ytdadgppbpomdoaa
