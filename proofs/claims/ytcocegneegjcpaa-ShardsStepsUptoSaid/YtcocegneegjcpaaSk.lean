/- THE WALKS of package shards: Step, over what a step's function leaves. -/
import Derived.Test.YtcocegneegjcpaaSi
namespace Go.Proofs.Ytcocegneegjcpaa
open Go Go.RowKit

theorem stepped_end {w w2 wf : World} {bk bw bp : Nat} {ws ws' : List Int} {l l' : List Value} {o : Obj} (h : Words w bk bw ws) (hp : Row w bp 126 l) (hW : Words w2 bk bw ws') (hr : Row w2 bp 126 l') (hP : Part [bw, bp] (w.alloc o) w2) (hE : Part [w.heap.size] w2 wf) :
    Words wf bk bw ws' ∧ Row wf bp 126 l' ∧ Part [bw, bp] w wf := by
  have h1 := h.head.lt
  have h2 := h.row.lt
  have h3 := hp.lt
  refine ⟨hW.part hE (by simp; omega) (by simp; omega), hr.part hE (by simp; omega), Part.trans (S' := [w.heap.size]) (Part.trans (S' := [bw, bp]) ((Part.refl [bw, bp] w).alloc _) hP (fun _ _ hm => hm)) hE (fun q hq hm => ?_)⟩
  simp at hm
  omega

set_option maxHeartbeats 1600000
set_option maxRecDepth 100000
theorem sadd_last {w : World} {bk bw bp : Nat} {ws ws' : List Int} {k c y s c' s' x0 x1 x2 x3 : Int} (h : Words w bk bw ws) (hp : Row w bp 126 (pendL bk k c y (fnV 62) s))
    (hf : ∀ w1, Words w1 bk bw ws → Row w1 bp 126 (pendL bk k c y (fnV 62) s) → Calls Try.prog 62 #[.pointer (some ⟨bp, 0, none⟩)] w1 (Stepped w1 bk bw bp ws' (pendL bk k c' y .nilFunc s') (.agg #[.int .u8 x0, .int .i64 x1, .int .u64 x2, .int .u64 x3, .bool true]))) :
    Calls Try.prog 26 #[.pointer (some ⟨bp, 0, none⟩)] w (Stepped w bk bw bp ws' (pendL bk k c' y .nilFunc s') (.tuple #[.agg #[.int .u8 x0, .int .i64 x1, .int .u64 x2, .int .u64 x3, .bool true], .bool true])) := by
  obtain ⟨c0, c1, c2, c3, c4, c5, c6⟩ := pend_cells hp
  unfold fnV at c5
  have hbp := hp.lt
  have hbw := h.row.lt
  have H := Lib.hid h
  have HP := Lib.hid hp
  have HF := Lib.hid hf
  have HM1 : Hid (w.heap.size ∉ [bw, bp]) := Lib.hid (by simp; omega)
  clear h hp hf
  go_enter Try.func26, Try.ntmps26
  go_wp2_with (first
    | (go_at_call 29; refine (sdone_no (HP.out.alloc _)).mono ?_; rintro e wx ⟨rfl, rfl⟩)
    | (go_at_call 62; refine (HF.out _ (H.out.alloc _) (HP.out.alloc _)).mono ?_; rintro e w2 ⟨rfl, hW2, hR2, hP2⟩; have HW2 := Lib.hid hW2; have HR2 := Lib.hid hR2; have HP2 := Lib.hid hP2; have hr0 : Row w2 w.heap.size 45 noDid := Row.part (Row.new w _ _) hP2 HM1.out; unfold noDid at hr0; obtain ⟨d0, d1, d2, d3, d4⟩ := hr0.five; have df := hr0.free; have dlt := hr0.lt; clear hr0 hW2 hR2 hP2))
  go_region_with (first
    | (go_at_call 29; (with_reducible refine (sdone_yes (HR2.out.alloc _).drew).mono ?_); rintro e wx ⟨rfl, rfl⟩))
  all_goals
    go_wp2_with fail
    refine bodyPost_ret (v := .tuple #[.agg #[.int .u8 x0, .int .i64 x1, .int .u64 x2, .int .u64 x3, .bool true], .bool true]) (by simp [results, Try.results26, go_sem, d0, d1, d2, d3, d4, dlt]) rfl ⟨rfl, ?_⟩
    refine stepped_end H.out HP.out HW2.out HR2.out HP2.out ?_
    repeat (first | (with_reducible exact Part.refl _ _) | (with_reducible refine Part.drew ?_) | (with_reducible refine Part.alloc ?_ _) | refine Part.set ?_ (by simp) _)
theorem sread_last {w : World} {bk bw bp : Nat} {ws ws' : List Int} {k c y s c' s' x0 x1 x2 x3 : Int} (h : Words w bk bw ws) (hp : Row w bp 126 (pendL bk k c y (fnV 63) s))
    (hf : ∀ w1, Words w1 bk bw ws → Row w1 bp 126 (pendL bk k c y (fnV 63) s) → Calls Try.prog 63 #[.pointer (some ⟨bp, 0, none⟩)] w1 (Stepped w1 bk bw bp ws' (pendL bk k c' y .nilFunc s') (.agg #[.int .u8 x0, .int .i64 x1, .int .u64 x2, .int .u64 x3, .bool true]))) :
    Calls Try.prog 26 #[.pointer (some ⟨bp, 0, none⟩)] w (Stepped w bk bw bp ws' (pendL bk k c' y .nilFunc s') (.tuple #[.agg #[.int .u8 x0, .int .i64 x1, .int .u64 x2, .int .u64 x3, .bool true], .bool true])) := by
  obtain ⟨c0, c1, c2, c3, c4, c5, c6⟩ := pend_cells hp
  unfold fnV at c5
  have hbp := hp.lt
  have hbw := h.row.lt
  have H := Lib.hid h
  have HP := Lib.hid hp
  have HF := Lib.hid hf
  have HM1 : Hid (w.heap.size ∉ [bw, bp]) := Lib.hid (by simp; omega)
  clear h hp hf
  go_enter Try.func26, Try.ntmps26
  go_wp2_with (first
    | (go_at_call 29; refine (sdone_no (HP.out.alloc _)).mono ?_; rintro e wx ⟨rfl, rfl⟩)
    | (go_at_call 63; refine (HF.out _ (H.out.alloc _) (HP.out.alloc _)).mono ?_; rintro e w2 ⟨rfl, hW2, hR2, hP2⟩; have HW2 := Lib.hid hW2; have HR2 := Lib.hid hR2; have HP2 := Lib.hid hP2; have hr0 : Row w2 w.heap.size 45 noDid := Row.part (Row.new w _ _) hP2 HM1.out; unfold noDid at hr0; obtain ⟨d0, d1, d2, d3, d4⟩ := hr0.five; have df := hr0.free; have dlt := hr0.lt; clear hr0 hW2 hR2 hP2))
  go_region_with (first
    | (go_at_call 29; (with_reducible refine (sdone_yes (HR2.out.alloc _).drew).mono ?_); rintro e wx ⟨rfl, rfl⟩))
  all_goals
    go_wp2_with fail
    refine bodyPost_ret (v := .tuple #[.agg #[.int .u8 x0, .int .i64 x1, .int .u64 x2, .int .u64 x3, .bool true], .bool true]) (by simp [results, Try.results26, go_sem, d0, d1, d2, d3, d4, dlt]) rfl ⟨rfl, ?_⟩
    refine stepped_end H.out HP.out HW2.out HR2.out HP2.out ?_
    repeat (first | (with_reducible exact Part.refl _ _) | (with_reducible refine Part.drew ?_) | (with_reducible refine Part.alloc ?_ _) | refine Part.set ?_ (by simp) _)
theorem sgat_last {w : World} {bk bw bp : Nat} {ws ws' : List Int} {k c y s c' s' x0 x1 x2 x3 : Int} (h : Words w bk bw ws) (hp : Row w bp 126 (pendL bk k c y (fnV 64) s))
    (hf : ∀ w1, Words w1 bk bw ws → Row w1 bp 126 (pendL bk k c y (fnV 64) s) → Calls Try.prog 64 #[.pointer (some ⟨bp, 0, none⟩)] w1 (Stepped w1 bk bw bp ws' (pendL bk k c' y .nilFunc s') (.agg #[.int .u8 x0, .int .i64 x1, .int .u64 x2, .int .u64 x3, .bool true]))) :
    Calls Try.prog 26 #[.pointer (some ⟨bp, 0, none⟩)] w (Stepped w bk bw bp ws' (pendL bk k c' y .nilFunc s') (.tuple #[.agg #[.int .u8 x0, .int .i64 x1, .int .u64 x2, .int .u64 x3, .bool true], .bool true])) := by
  obtain ⟨c0, c1, c2, c3, c4, c5, c6⟩ := pend_cells hp
  unfold fnV at c5
  have hbp := hp.lt
  have hbw := h.row.lt
  have H := Lib.hid h
  have HP := Lib.hid hp
  have HF := Lib.hid hf
  have HM1 : Hid (w.heap.size ∉ [bw, bp]) := Lib.hid (by simp; omega)
  clear h hp hf
  go_enter Try.func26, Try.ntmps26
  go_wp2_with (first
    | (go_at_call 29; refine (sdone_no (HP.out.alloc _)).mono ?_; rintro e wx ⟨rfl, rfl⟩)
    | (go_at_call 64; refine (HF.out _ (H.out.alloc _) (HP.out.alloc _)).mono ?_; rintro e w2 ⟨rfl, hW2, hR2, hP2⟩; have HW2 := Lib.hid hW2; have HR2 := Lib.hid hR2; have HP2 := Lib.hid hP2; have hr0 : Row w2 w.heap.size 45 noDid := Row.part (Row.new w _ _) hP2 HM1.out; unfold noDid at hr0; obtain ⟨d0, d1, d2, d3, d4⟩ := hr0.five; have df := hr0.free; have dlt := hr0.lt; clear hr0 hW2 hR2 hP2))
  go_region_with (first
    | (go_at_call 29; (with_reducible refine (sdone_yes (HR2.out.alloc _).drew).mono ?_); rintro e wx ⟨rfl, rfl⟩))
  all_goals
    go_wp2_with fail
    refine bodyPost_ret (v := .tuple #[.agg #[.int .u8 x0, .int .i64 x1, .int .u64 x2, .int .u64 x3, .bool true], .bool true]) (by simp [results, Try.results26, go_sem, d0, d1, d2, d3, d4, dlt]) rfl ⟨rfl, ?_⟩
    refine stepped_end H.out HP.out HW2.out HR2.out HP2.out ?_
    repeat (first | (with_reducible exact Part.refl _ _) | (with_reducible refine Part.drew ?_) | (with_reducible refine Part.alloc ?_ _) | refine Part.set ?_ (by simp) _)
theorem sgat_more {w : World} {bk bw bp : Nat} {ws ws' : List Int} {k c y s c' s' x0 x1 x2 x3 : Int} (h : Words w bk bw ws) (hp : Row w bp 126 (pendL bk k c y (fnV 64) s))
    (hf : ∀ w1, Words w1 bk bw ws → Row w1 bp 126 (pendL bk k c y (fnV 64) s) → Calls Try.prog 64 #[.pointer (some ⟨bp, 0, none⟩)] w1 (Stepped w1 bk bw bp ws' (pendL bk k c' y (fnV 64) s') (.agg #[.int .u8 x0, .int .i64 x1, .int .u64 x2, .int .u64 x3, .bool true]))) :
    Calls Try.prog 26 #[.pointer (some ⟨bp, 0, none⟩)] w (Stepped w bk bw bp ws' (pendL bk k c' y (fnV 64) s') (.tuple #[.agg #[.int .u8 x0, .int .i64 x1, .int .u64 x2, .int .u64 x3, .bool true], .bool false])) := by
  obtain ⟨c0, c1, c2, c3, c4, c5, c6⟩ := pend_cells hp
  unfold fnV at c5
  have hbp := hp.lt
  have hbw := h.row.lt
  have H := Lib.hid h
  have HP := Lib.hid hp
  have HF := Lib.hid hf
  have HM1 : Hid (w.heap.size ∉ [bw, bp]) := Lib.hid (by simp; omega)
  clear h hp hf
  go_enter Try.func26, Try.ntmps26
  go_wp2_with (first
    | (go_at_call 29; refine (sdone_no (HP.out.alloc _)).mono ?_; rintro e wx ⟨rfl, rfl⟩)
    | (go_at_call 64; refine (HF.out _ (H.out.alloc _) (HP.out.alloc _)).mono ?_; rintro e w2 ⟨rfl, hW2, hR2, hP2⟩; have HW2 := Lib.hid hW2; have HR2 := Lib.hid hR2; have HP2 := Lib.hid hP2; have hr0 : Row w2 w.heap.size 45 noDid := Row.part (Row.new w _ _) hP2 HM1.out; unfold noDid at hr0; obtain ⟨d0, d1, d2, d3, d4⟩ := hr0.five; have df := hr0.free; have dlt := hr0.lt; clear hr0 hW2 hR2 hP2))
  go_region_with (first
    | (go_at_call 29; (with_reducible refine (sdone_no (HR2.out.alloc _).drew).mono ?_); rintro e wx ⟨rfl, rfl⟩))
  all_goals
    go_wp2_with fail
    refine bodyPost_ret (v := .tuple #[.agg #[.int .u8 x0, .int .i64 x1, .int .u64 x2, .int .u64 x3, .bool true], .bool false]) (by simp [results, Try.results26, go_sem, d0, d1, d2, d3, d4, dlt]) rfl ⟨rfl, ?_⟩
    refine stepped_end H.out HP.out HW2.out HR2.out HP2.out ?_
    repeat (first | (with_reducible exact Part.refl _ _) | (with_reducible refine Part.drew ?_) | (with_reducible refine Part.alloc ?_ _) | refine Part.set ?_ (by simp) _)
end Go.Proofs.Ytcocegneegjcpaa
