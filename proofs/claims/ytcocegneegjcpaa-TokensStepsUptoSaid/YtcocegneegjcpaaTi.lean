/- THE WALKS of package tokens: Step, over what a step's function leaves. -/
import Derived.Test.YtcocegneegjcpaaTe
namespace Go.Proofs.Ytcocegneegjcpaa
open Go Go.RowKit

theorem steppedT_end {w w2 wf : World} {bk bw bp : Nat} {T T' : Int} {l l' : List Value} {o : Obj} (h : Words w bk bw [T]) (hp : Row w bp 140 l) (hW : Words w2 bk bw [T']) (hr : Row w2 bp 140 l') (hP : Part [bw, bp] (w.alloc o) w2) (hE : Part [w.heap.size] w2 wf) :
    Words wf bk bw [T'] ∧ Row wf bp 140 l' ∧ Part [bw, bp] w wf := by
  have h1 := h.head.lt
  have h2 := h.row.lt
  have h3 := hp.lt
  refine ⟨hW.part hE (by simp; omega) (by simp; omega), hr.part hE (by simp; omega), Part.trans (S' := [w.heap.size]) (Part.trans (S' := [bw, bp]) ((Part.refl [bw, bp] w).alloc _) hP (fun _ _ hm => hm)) hE (fun q hq hm => ?_)⟩
  simp at hm
  omega

set_option maxHeartbeats 1600000
set_option maxRecDepth 100000
theorem tstep_load_last {w : World} {bt bk bw bp : Nat} {ev bu T T' t n saw put wait left saw' put' wait' left' x0 x1 x2 x3 : Int} {ok ok' x4 : Bool} (h : Buck w bt bk bw ev bu T) (hp : Row w bp 140 (pendT bt t n saw put (fnV 76) ok wait left))
    (hf : ∀ w1, Buck w1 bt bk bw ev bu T → Row w1 bp 140 (pendT bt t n saw put (fnV 76) ok wait left) → Calls Try.prog 76 #[.pointer (some ⟨bp, 0, none⟩)] w1 (SteppedT w1 bk bw bp T' (pendT bt t n saw' put' .nilFunc ok' wait' left') (.agg #[.int .u8 x0, .int .i64 x1, .int .u64 x2, .int .u64 x3, .bool x4]))) :
    Calls Try.prog 43 #[.pointer (some ⟨bp, 0, none⟩)] w (SteppedT w bk bw bp T' (pendT bt t n saw' put' .nilFunc ok' wait' left') (.tuple #[.agg #[.int .u8 x0, .int .i64 x1, .int .u64 x2, .int .u64 x3, .bool x4], .bool true])) := by
  obtain ⟨c0, c1, c2, c3, c4, c5, c6, c7, c8⟩ := pendT_cells hp
  unfold fnV at c5
  have hbp := hp.lt
  have hbw := h.words.row.lt
  have H := Lib.hid h
  have HP := Lib.hid hp
  have HF := Lib.hid hf
  have HM1 : Hid (w.heap.size ∉ [bw, bp]) := Lib.hid (by simp; omega)
  clear h hp hf
  go_enter Try.func43, Try.ntmps43
  go_wp2_with (first
    | (go_at_call 45; refine (tdone_no (HP.out.alloc _)).mono ?_; rintro e wx ⟨rfl, rfl⟩)
    | (go_at_call 76; refine (HF.out _ (H.out.alloc _) (HP.out.alloc _)).mono ?_; rintro e w2 ⟨rfl, hW2, hR2, hP2⟩; have HW2 := Lib.hid hW2; have HR2 := Lib.hid hR2; have HP2 := Lib.hid hP2; have hr0 : Row w2 w.heap.size 45 noDid := Row.part (Row.new w _ _) hP2 HM1.out; unfold noDid at hr0; obtain ⟨d0, d1, d2, d3, d4⟩ := hr0.five; have df := hr0.free; have dlt := hr0.lt; clear hr0 hW2 hR2 hP2))
  go_region_with (first
    | (go_at_call 45; (with_reducible refine (tdone_yes (HR2.out.alloc _).drew).mono ?_); rintro e wx ⟨rfl, rfl⟩))
  all_goals
    go_wp2_with fail
    refine bodyPost_ret (v := .tuple #[.agg #[.int .u8 x0, .int .i64 x1, .int .u64 x2, .int .u64 x3, .bool x4], .bool true]) (by simp [results, Try.results43, go_sem, d0, d1, d2, d3, d4, dlt]) rfl ⟨rfl, ?_⟩
    refine steppedT_end H.out.words HP.out HW2.out HR2.out HP2.out ?_
    repeat (first | (with_reducible exact Part.refl _ _) | (with_reducible refine Part.drew ?_) | (with_reducible refine Part.alloc ?_ _) | refine Part.set ?_ (by simp) _)
theorem tstep_load_more {w : World} {bt bk bw bp : Nat} {ev bu T T' t n saw put wait left saw' put' wait' left' x0 x1 x2 x3 : Int} {ok ok' x4 : Bool} (h : Buck w bt bk bw ev bu T) (hp : Row w bp 140 (pendT bt t n saw put (fnV 76) ok wait left))
    (hf : ∀ w1, Buck w1 bt bk bw ev bu T → Row w1 bp 140 (pendT bt t n saw put (fnV 76) ok wait left) → Calls Try.prog 76 #[.pointer (some ⟨bp, 0, none⟩)] w1 (SteppedT w1 bk bw bp T' (pendT bt t n saw' put' (fnV 95) ok' wait' left') (.agg #[.int .u8 x0, .int .i64 x1, .int .u64 x2, .int .u64 x3, .bool x4]))) :
    Calls Try.prog 43 #[.pointer (some ⟨bp, 0, none⟩)] w (SteppedT w bk bw bp T' (pendT bt t n saw' put' (fnV 95) ok' wait' left') (.tuple #[.agg #[.int .u8 x0, .int .i64 x1, .int .u64 x2, .int .u64 x3, .bool x4], .bool false])) := by
  obtain ⟨c0, c1, c2, c3, c4, c5, c6, c7, c8⟩ := pendT_cells hp
  unfold fnV at c5
  have hbp := hp.lt
  have hbw := h.words.row.lt
  have H := Lib.hid h
  have HP := Lib.hid hp
  have HF := Lib.hid hf
  have HM1 : Hid (w.heap.size ∉ [bw, bp]) := Lib.hid (by simp; omega)
  clear h hp hf
  go_enter Try.func43, Try.ntmps43
  go_wp2_with (first
    | (go_at_call 45; refine (tdone_no (HP.out.alloc _)).mono ?_; rintro e wx ⟨rfl, rfl⟩)
    | (go_at_call 76; refine (HF.out _ (H.out.alloc _) (HP.out.alloc _)).mono ?_; rintro e w2 ⟨rfl, hW2, hR2, hP2⟩; have HW2 := Lib.hid hW2; have HR2 := Lib.hid hR2; have HP2 := Lib.hid hP2; have hr0 : Row w2 w.heap.size 45 noDid := Row.part (Row.new w _ _) hP2 HM1.out; unfold noDid at hr0; obtain ⟨d0, d1, d2, d3, d4⟩ := hr0.five; have df := hr0.free; have dlt := hr0.lt; clear hr0 hW2 hR2 hP2))
  go_region_with (first
    | (go_at_call 45; (with_reducible refine (tdone_no (HR2.out.alloc _).drew).mono ?_); rintro e wx ⟨rfl, rfl⟩))
  all_goals
    go_wp2_with fail
    refine bodyPost_ret (v := .tuple #[.agg #[.int .u8 x0, .int .i64 x1, .int .u64 x2, .int .u64 x3, .bool x4], .bool false]) (by simp [results, Try.results43, go_sem, d0, d1, d2, d3, d4, dlt]) rfl ⟨rfl, ?_⟩
    refine steppedT_end H.out.words HP.out HW2.out HR2.out HP2.out ?_
    repeat (first | (with_reducible exact Part.refl _ _) | (with_reducible refine Part.drew ?_) | (with_reducible refine Part.alloc ?_ _) | refine Part.set ?_ (by simp) _)
theorem tstep_swap_last {w : World} {bt bk bw bp : Nat} {ev bu T T' t n saw put wait left saw' put' wait' left' x0 x1 x2 x3 : Int} {ok ok' x4 : Bool} (h : Buck w bt bk bw ev bu T) (hp : Row w bp 140 (pendT bt t n saw put (fnV 95) ok wait left))
    (hf : ∀ w1, Buck w1 bt bk bw ev bu T → Row w1 bp 140 (pendT bt t n saw put (fnV 95) ok wait left) → Calls Try.prog 95 #[.pointer (some ⟨bp, 0, none⟩)] w1 (SteppedT w1 bk bw bp T' (pendT bt t n saw' put' .nilFunc ok' wait' left') (.agg #[.int .u8 x0, .int .i64 x1, .int .u64 x2, .int .u64 x3, .bool x4]))) :
    Calls Try.prog 43 #[.pointer (some ⟨bp, 0, none⟩)] w (SteppedT w bk bw bp T' (pendT bt t n saw' put' .nilFunc ok' wait' left') (.tuple #[.agg #[.int .u8 x0, .int .i64 x1, .int .u64 x2, .int .u64 x3, .bool x4], .bool true])) := by
  obtain ⟨c0, c1, c2, c3, c4, c5, c6, c7, c8⟩ := pendT_cells hp
  unfold fnV at c5
  have hbp := hp.lt
  have hbw := h.words.row.lt
  have H := Lib.hid h
  have HP := Lib.hid hp
  have HF := Lib.hid hf
  have HM1 : Hid (w.heap.size ∉ [bw, bp]) := Lib.hid (by simp; omega)
  clear h hp hf
  go_enter Try.func43, Try.ntmps43
  go_wp2_with (first
    | (go_at_call 45; refine (tdone_no (HP.out.alloc _)).mono ?_; rintro e wx ⟨rfl, rfl⟩)
    | (go_at_call 95; refine (HF.out _ (H.out.alloc _) (HP.out.alloc _)).mono ?_; rintro e w2 ⟨rfl, hW2, hR2, hP2⟩; have HW2 := Lib.hid hW2; have HR2 := Lib.hid hR2; have HP2 := Lib.hid hP2; have hr0 : Row w2 w.heap.size 45 noDid := Row.part (Row.new w _ _) hP2 HM1.out; unfold noDid at hr0; obtain ⟨d0, d1, d2, d3, d4⟩ := hr0.five; have df := hr0.free; have dlt := hr0.lt; clear hr0 hW2 hR2 hP2))
  go_region_with (first
    | (go_at_call 45; (with_reducible refine (tdone_yes (HR2.out.alloc _).drew).mono ?_); rintro e wx ⟨rfl, rfl⟩))
  all_goals
    go_wp2_with fail
    refine bodyPost_ret (v := .tuple #[.agg #[.int .u8 x0, .int .i64 x1, .int .u64 x2, .int .u64 x3, .bool x4], .bool true]) (by simp [results, Try.results43, go_sem, d0, d1, d2, d3, d4, dlt]) rfl ⟨rfl, ?_⟩
    refine steppedT_end H.out.words HP.out HW2.out HR2.out HP2.out ?_
    repeat (first | (with_reducible exact Part.refl _ _) | (with_reducible refine Part.drew ?_) | (with_reducible refine Part.alloc ?_ _) | refine Part.set ?_ (by simp) _)
theorem tstep_swap_more {w : World} {bt bk bw bp : Nat} {ev bu T T' t n saw put wait left saw' put' wait' left' x0 x1 x2 x3 : Int} {ok ok' x4 : Bool} (h : Buck w bt bk bw ev bu T) (hp : Row w bp 140 (pendT bt t n saw put (fnV 95) ok wait left))
    (hf : ∀ w1, Buck w1 bt bk bw ev bu T → Row w1 bp 140 (pendT bt t n saw put (fnV 95) ok wait left) → Calls Try.prog 95 #[.pointer (some ⟨bp, 0, none⟩)] w1 (SteppedT w1 bk bw bp T' (pendT bt t n saw' put' (fnV 76) ok' wait' left') (.agg #[.int .u8 x0, .int .i64 x1, .int .u64 x2, .int .u64 x3, .bool x4]))) :
    Calls Try.prog 43 #[.pointer (some ⟨bp, 0, none⟩)] w (SteppedT w bk bw bp T' (pendT bt t n saw' put' (fnV 76) ok' wait' left') (.tuple #[.agg #[.int .u8 x0, .int .i64 x1, .int .u64 x2, .int .u64 x3, .bool x4], .bool false])) := by
  obtain ⟨c0, c1, c2, c3, c4, c5, c6, c7, c8⟩ := pendT_cells hp
  unfold fnV at c5
  have hbp := hp.lt
  have hbw := h.words.row.lt
  have H := Lib.hid h
  have HP := Lib.hid hp
  have HF := Lib.hid hf
  have HM1 : Hid (w.heap.size ∉ [bw, bp]) := Lib.hid (by simp; omega)
  clear h hp hf
  go_enter Try.func43, Try.ntmps43
  go_wp2_with (first
    | (go_at_call 45; refine (tdone_no (HP.out.alloc _)).mono ?_; rintro e wx ⟨rfl, rfl⟩)
    | (go_at_call 95; refine (HF.out _ (H.out.alloc _) (HP.out.alloc _)).mono ?_; rintro e w2 ⟨rfl, hW2, hR2, hP2⟩; have HW2 := Lib.hid hW2; have HR2 := Lib.hid hR2; have HP2 := Lib.hid hP2; have hr0 : Row w2 w.heap.size 45 noDid := Row.part (Row.new w _ _) hP2 HM1.out; unfold noDid at hr0; obtain ⟨d0, d1, d2, d3, d4⟩ := hr0.five; have df := hr0.free; have dlt := hr0.lt; clear hr0 hW2 hR2 hP2))
  go_region_with (first
    | (go_at_call 45; (with_reducible refine (tdone_no (HR2.out.alloc _).drew).mono ?_); rintro e wx ⟨rfl, rfl⟩))
  all_goals
    go_wp2_with fail
    refine bodyPost_ret (v := .tuple #[.agg #[.int .u8 x0, .int .i64 x1, .int .u64 x2, .int .u64 x3, .bool x4], .bool false]) (by simp [results, Try.results43, go_sem, d0, d1, d2, d3, d4, dlt]) rfl ⟨rfl, ?_⟩
    refine steppedT_end H.out.words HP.out HW2.out HR2.out HP2.out ?_
    repeat (first | (with_reducible exact Part.refl _ _) | (with_reducible refine Part.drew ?_) | (with_reducible refine Part.alloc ?_ _) | refine Part.set ?_ (by simp) _)
theorem tstep_peek_last {w : World} {bt bk bw bp : Nat} {ev bu T T' t n saw put wait left saw' put' wait' left' x0 x1 x2 x3 : Int} {ok ok' x4 : Bool} (h : Buck w bt bk bw ev bu T) (hp : Row w bp 140 (pendT bt t n saw put (fnV 77) ok wait left))
    (hf : ∀ w1, Buck w1 bt bk bw ev bu T → Row w1 bp 140 (pendT bt t n saw put (fnV 77) ok wait left) → Calls Try.prog 77 #[.pointer (some ⟨bp, 0, none⟩)] w1 (SteppedT w1 bk bw bp T' (pendT bt t n saw' put' .nilFunc ok' wait' left') (.agg #[.int .u8 x0, .int .i64 x1, .int .u64 x2, .int .u64 x3, .bool x4]))) :
    Calls Try.prog 43 #[.pointer (some ⟨bp, 0, none⟩)] w (SteppedT w bk bw bp T' (pendT bt t n saw' put' .nilFunc ok' wait' left') (.tuple #[.agg #[.int .u8 x0, .int .i64 x1, .int .u64 x2, .int .u64 x3, .bool x4], .bool true])) := by
  obtain ⟨c0, c1, c2, c3, c4, c5, c6, c7, c8⟩ := pendT_cells hp
  unfold fnV at c5
  have hbp := hp.lt
  have hbw := h.words.row.lt
  have H := Lib.hid h
  have HP := Lib.hid hp
  have HF := Lib.hid hf
  have HM1 : Hid (w.heap.size ∉ [bw, bp]) := Lib.hid (by simp; omega)
  clear h hp hf
  go_enter Try.func43, Try.ntmps43
  go_wp2_with (first
    | (go_at_call 45; refine (tdone_no (HP.out.alloc _)).mono ?_; rintro e wx ⟨rfl, rfl⟩)
    | (go_at_call 77; refine (HF.out _ (H.out.alloc _) (HP.out.alloc _)).mono ?_; rintro e w2 ⟨rfl, hW2, hR2, hP2⟩; have HW2 := Lib.hid hW2; have HR2 := Lib.hid hR2; have HP2 := Lib.hid hP2; have hr0 : Row w2 w.heap.size 45 noDid := Row.part (Row.new w _ _) hP2 HM1.out; unfold noDid at hr0; obtain ⟨d0, d1, d2, d3, d4⟩ := hr0.five; have df := hr0.free; have dlt := hr0.lt; clear hr0 hW2 hR2 hP2))
  go_region_with (first
    | (go_at_call 45; (with_reducible refine (tdone_yes (HR2.out.alloc _).drew).mono ?_); rintro e wx ⟨rfl, rfl⟩))
  all_goals
    go_wp2_with fail
    refine bodyPost_ret (v := .tuple #[.agg #[.int .u8 x0, .int .i64 x1, .int .u64 x2, .int .u64 x3, .bool x4], .bool true]) (by simp [results, Try.results43, go_sem, d0, d1, d2, d3, d4, dlt]) rfl ⟨rfl, ?_⟩
    refine steppedT_end H.out.words HP.out HW2.out HR2.out HP2.out ?_
    repeat (first | (with_reducible exact Part.refl _ _) | (with_reducible refine Part.drew ?_) | (with_reducible refine Part.alloc ?_ _) | refine Part.set ?_ (by simp) _)
end Go.Proofs.Ytcocegneegjcpaa
