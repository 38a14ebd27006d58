/- THE WALKS of package quota: Step, over what a step's function leaves. -/
import Derived.Test.YteoekkhgpdhnhaaDoorBe
namespace Go.Proofs.YteoekkhgpdhnhaaDoor
open Go Go.RowKit

theorem stepped_end {w w2 wf : World} {bk bw bp : Nat} {ws ws' : List Int} {l l' : List Value} {o : Obj} (h : Words w bk bw ws) (hp : Row w bp 97 l) (hW : Words w2 bk bw ws') (hr : Row w2 bp 97 l') (hP : Part [bw, bp] (w.alloc o) w2) (hE : Part [w.heap.size] w2 wf) :
    Words wf bk bw ws' ∧ Row wf bp 97 l' ∧ Part [bw, bp] w wf := by
  have h1 := h.head.lt
  have h2 := h.row.lt
  have h3 := hp.lt
  refine ⟨hW.part hE (by simp; omega) (by simp; omega), hr.part hE (by simp; omega), Part.trans (S' := [w.heap.size]) (Part.trans (S' := [bw, bp]) ((Part.refl [bw, bp] w).alloc _) hP (fun _ _ hm => hm)) hE (fun q hq hm => ?_)⟩
  simp at hm
  omega
def noDidV : Value := .agg #[.int .u8 0, .int .i64 0, .int .u64 0, .int .u64 0, .bool false]
set_option maxHeartbeats 1600000
set_option maxRecDepth 100000
theorem bstep_nil {w : World} : Calls Tryd.prog 9 #[.pointer none] w fun e w' => e = .returned (.tuple #[noDidV, .bool true]) ∧ Below w.heap.size w w' := by
  go_enter Tryd.func9, Tryd.ntmps9
  go_wp2_with (go_at_call 11; refine (bdone_nil _).mono ?_; rintro e wx ⟨rfl, rfl⟩)
  refine bodyPost_ret (v := .tuple #[noDidV, .bool true]) (by simp [results, Tryd.results9, go_sem, noDidV]) rfl ⟨rfl, ?_⟩
  repeat (first | exact Below.refl _ _ | refine Below.alloc ?_ (by simp; try omega) _ | refine Below.setCell ?_ (by simp) _)
theorem bstep_over {w : World} {bp bq : Nat} {own saw hand ps sum ans : Int} (hp : Row w bp 97 (pendB bq own .nilFunc saw hand ps sum ans)) :
    Calls Tryd.prog 9 #[.pointer (some ⟨bp, 0, none⟩)] w fun e w' => e = .returned (.tuple #[noDidV, .bool true]) ∧ Below w.heap.size w w' := by
  have HP := Lib.hid hp
  clear hp
  go_enter Tryd.func9, Tryd.ntmps9
  go_wp2_with (go_at_call 11; refine (bdone_yes (HP.out.alloc _)).mono ?_; rintro e wx ⟨rfl, rfl⟩)
  refine bodyPost_ret (v := .tuple #[noDidV, .bool true]) (by simp [results, Tryd.results9, go_sem, noDidV]) rfl ⟨rfl, ?_⟩
  repeat (first | exact Below.refl _ _ | refine Below.alloc ?_ (by simp; try omega) _ | refine Below.setCell ?_ (by simp) _)
theorem bstep_look_false {w : World} {bk bw bp bq : Nat} {ws ws' : List Int} {own saw hand ps sum ans saw' hand' ps' sum' ans' x0 x1 x2 x3 : Int} {x4 : Bool} {nf : FuncId} (h : Words w bk bw ws) (hp : Row w bp 97 (pendB bq own (fnV 36) saw hand ps sum ans))
    (hf : Calls Tryd.prog 36 #[.pointer (some ⟨bp, 0, none⟩)] (w.alloc (.cells noDid.toArray 39)) (SteppedB (w.alloc (.cells noDid.toArray 39)) bk bw bp ws' (pendB bq own (fnV nf) saw' hand' ps' sum' ans') (.agg #[.int .u8 x0, .int .i64 x1, .int .u64 x2, .int .u64 x3, .bool x4]))) :
    Calls Tryd.prog 9 #[.pointer (some ⟨bp, 0, none⟩)] w (SteppedB w bk bw bp ws' (pendB bq own (fnV nf) saw' hand' ps' sum' ans') (.tuple #[.agg #[.int .u8 x0, .int .i64 x1, .int .u64 x2, .int .u64 x3, .bool x4], .bool false])) := by
  have c2 : w.cell? ⟨bp, 2, none⟩ = some (.func (.func 36) #[] #[]) := hp.cell 2
  have hbp := hp.lt
  have hbw := h.row.lt
  have H := Lib.hid h
  have HP := Lib.hid hp
  have hf' : Calls Tryd.prog 36 #[.pointer (some ⟨bp, 0, none⟩)] (w.alloc (.cells #[.int .u8 0, .int .i64 0, .int .u64 0, .int .u64 0, .bool false] 39)) (SteppedB (w.alloc (.cells noDid.toArray 39)) bk bw bp ws' (pendB bq own (fnV nf) saw' hand' ps' sum' ans') (.agg #[.int .u8 x0, .int .i64 x1, .int .u64 x2, .int .u64 x3, .bool x4])) := hf
  have HF := Lib.hid hf'
  have HM1 : Hid (w.heap.size ∉ [bw, bp]) := Lib.hid (by simp; omega)
  clear h hp hf hf'
  go_enter Tryd.func9, Tryd.ntmps9
  go_wp2_with (first
    | (go_at_call 11; refine (bdone_no (HP.out.alloc _)).mono ?_; rintro e wx ⟨rfl, rfl⟩)
    | (go_at_call 36; (with_reducible refine HF.out.mono ?_); rintro e w2 ⟨rfl, hW2, hR2, hP2⟩; have HW2 := Lib.hid hW2; have HR2 := Lib.hid hR2; have HP2 := Lib.hid hP2; have hr0 : Row w2 w.heap.size 39 noDid := Row.part (Row.new w _ _) hP2 HM1.out; unfold noDid at hr0; obtain ⟨d0, d1, d2, d3, d4⟩ := hr0.five; have df := hr0.free; have dlt := hr0.lt; clear hr0 hW2 hR2 hP2))
  go_region_with (first
    | (go_at_call 11; (with_reducible refine (bdone_no (HR2.out.alloc _).drew).mono ?_); rintro e wx ⟨rfl, rfl⟩))
  all_goals
    go_wp2_with fail
    refine bodyPost_ret (v := .tuple #[.agg #[.int .u8 x0, .int .i64 x1, .int .u64 x2, .int .u64 x3, .bool x4], .bool false]) (by simp [results, Tryd.results9, go_sem, d0, d1, d2, d3, d4, dlt]) rfl ⟨rfl, ?_⟩
    refine stepped_end H.out HP.out HW2.out HR2.out HP2.out ?_
    repeat (first | (with_reducible exact Part.refl _ _) | (with_reducible refine Part.drew ?_) | (with_reducible refine Part.alloc ?_ _) | refine Part.set ?_ (by simp) _)
theorem bstep_spend_false {w : World} {bk bw bp bq : Nat} {ws ws' : List Int} {own saw hand ps sum ans saw' hand' ps' sum' ans' x0 x1 x2 x3 : Int} {x4 : Bool} {nf : FuncId} (h : Words w bk bw ws) (hp : Row w bp 97 (pendB bq own (fnV 63) saw hand ps sum ans))
    (hf : Calls Tryd.prog 63 #[.pointer (some ⟨bp, 0, none⟩)] (w.alloc (.cells noDid.toArray 39)) (SteppedB (w.alloc (.cells noDid.toArray 39)) bk bw bp ws' (pendB bq own (fnV nf) saw' hand' ps' sum' ans') (.agg #[.int .u8 x0, .int .i64 x1, .int .u64 x2, .int .u64 x3, .bool x4]))) :
    Calls Tryd.prog 9 #[.pointer (some ⟨bp, 0, none⟩)] w (SteppedB w bk bw bp ws' (pendB bq own (fnV nf) saw' hand' ps' sum' ans') (.tuple #[.agg #[.int .u8 x0, .int .i64 x1, .int .u64 x2, .int .u64 x3, .bool x4], .bool false])) := by
  have c2 : w.cell? ⟨bp, 2, none⟩ = some (.func (.func 63) #[] #[]) := hp.cell 2
  have hbp := hp.lt
  have hbw := h.row.lt
  have H := Lib.hid h
  have HP := Lib.hid hp
  have hf' : Calls Tryd.prog 63 #[.pointer (some ⟨bp, 0, none⟩)] (w.alloc (.cells #[.int .u8 0, .int .i64 0, .int .u64 0, .int .u64 0, .bool false] 39)) (SteppedB (w.alloc (.cells noDid.toArray 39)) bk bw bp ws' (pendB bq own (fnV nf) saw' hand' ps' sum' ans') (.agg #[.int .u8 x0, .int .i64 x1, .int .u64 x2, .int .u64 x3, .bool x4])) := hf
  have HF := Lib.hid hf'
  have HM1 : Hid (w.heap.size ∉ [bw, bp]) := Lib.hid (by simp; omega)
  clear h hp hf hf'
  go_enter Tryd.func9, Tryd.ntmps9
  go_wp2_with (first
    | (go_at_call 11; refine (bdone_no (HP.out.alloc _)).mono ?_; rintro e wx ⟨rfl, rfl⟩)
    | (go_at_call 63; (with_reducible refine HF.out.mono ?_); rintro e w2 ⟨rfl, hW2, hR2, hP2⟩; have HW2 := Lib.hid hW2; have HR2 := Lib.hid hR2; have HP2 := Lib.hid hP2; have hr0 : Row w2 w.heap.size 39 noDid := Row.part (Row.new w _ _) hP2 HM1.out; unfold noDid at hr0; obtain ⟨d0, d1, d2, d3, d4⟩ := hr0.five; have df := hr0.free; have dlt := hr0.lt; clear hr0 hW2 hR2 hP2))
  go_region_with (first
    | (go_at_call 11; (with_reducible refine (bdone_no (HR2.out.alloc _).drew).mono ?_); rintro e wx ⟨rfl, rfl⟩))
  all_goals
    go_wp2_with fail
    refine bodyPost_ret (v := .tuple #[.agg #[.int .u8 x0, .int .i64 x1, .int .u64 x2, .int .u64 x3, .bool x4], .bool false]) (by simp [results, Tryd.results9, go_sem, d0, d1, d2, d3, d4, dlt]) rfl ⟨rfl, ?_⟩
    refine stepped_end H.out HP.out HW2.out HR2.out HP2.out ?_
    repeat (first | (with_reducible exact Part.refl _ _) | (with_reducible refine Part.drew ?_) | (with_reducible refine Part.alloc ?_ _) | refine Part.set ?_ (by simp) _)
theorem bstep_spend_true {w : World} {bk bw bp bq : Nat} {ws ws' : List Int} {own saw hand ps sum ans saw' hand' ps' sum' ans' x0 x1 x2 x3 : Int} {x4 : Bool} (h : Words w bk bw ws) (hp : Row w bp 97 (pendB bq own (fnV 63) saw hand ps sum ans))
    (hf : Calls Tryd.prog 63 #[.pointer (some ⟨bp, 0, none⟩)] (w.alloc (.cells noDid.toArray 39)) (SteppedB (w.alloc (.cells noDid.toArray 39)) bk bw bp ws' (pendB bq own .nilFunc saw' hand' ps' sum' ans') (.agg #[.int .u8 x0, .int .i64 x1, .int .u64 x2, .int .u64 x3, .bool x4]))) :
    Calls Tryd.prog 9 #[.pointer (some ⟨bp, 0, none⟩)] w (SteppedB w bk bw bp ws' (pendB bq own .nilFunc saw' hand' ps' sum' ans') (.tuple #[.agg #[.int .u8 x0, .int .i64 x1, .int .u64 x2, .int .u64 x3, .bool x4], .bool true])) := by
  have c2 : w.cell? ⟨bp, 2, none⟩ = some (.func (.func 63) #[] #[]) := hp.cell 2
  have hbp := hp.lt
  have hbw := h.row.lt
  have H := Lib.hid h
  have HP := Lib.hid hp
  have hf' : Calls Tryd.prog 63 #[.pointer (some ⟨bp, 0, none⟩)] (w.alloc (.cells #[.int .u8 0, .int .i64 0, .int .u64 0, .int .u64 0, .bool false] 39)) (SteppedB (w.alloc (.cells noDid.toArray 39)) bk bw bp ws' (pendB bq own .nilFunc saw' hand' ps' sum' ans') (.agg #[.int .u8 x0, .int .i64 x1, .int .u64 x2, .int .u64 x3, .bool x4])) := hf
  have HF := Lib.hid hf'
  have HM1 : Hid (w.heap.size ∉ [bw, bp]) := Lib.hid (by simp; omega)
  clear h hp hf hf'
  go_enter Tryd.func9, Tryd.ntmps9
  go_wp2_with (first
    | (go_at_call 11; refine (bdone_no (HP.out.alloc _)).mono ?_; rintro e wx ⟨rfl, rfl⟩)
    | (go_at_call 63; (with_reducible refine HF.out.mono ?_); rintro e w2 ⟨rfl, hW2, hR2, hP2⟩; have HW2 := Lib.hid hW2; have HR2 := Lib.hid hR2; have HP2 := Lib.hid hP2; have hr0 : Row w2 w.heap.size 39 noDid := Row.part (Row.new w _ _) hP2 HM1.out; unfold noDid at hr0; obtain ⟨d0, d1, d2, d3, d4⟩ := hr0.five; have df := hr0.free; have dlt := hr0.lt; clear hr0 hW2 hR2 hP2))
  go_region_with (first
    | (go_at_call 11; (with_reducible refine (bdone_yes (HR2.out.alloc _).drew).mono ?_); rintro e wx ⟨rfl, rfl⟩))
  all_goals
    go_wp2_with fail
    refine bodyPost_ret (v := .tuple #[.agg #[.int .u8 x0, .int .i64 x1, .int .u64 x2, .int .u64 x3, .bool x4], .bool true]) (by simp [results, Tryd.results9, go_sem, d0, d1, d2, d3, d4, dlt]) rfl ⟨rfl, ?_⟩
    refine stepped_end H.out HP.out HW2.out HR2.out HP2.out ?_
    repeat (first | (with_reducible exact Part.refl _ _) | (with_reducible refine Part.drew ?_) | (with_reducible refine Part.alloc ?_ _) | refine Part.set ?_ (by simp) _)
theorem bstep_lookAtPool_false {w : World} {bk bw bp bq : Nat} {ws ws' : List Int} {own saw hand ps sum ans saw' hand' ps' sum' ans' x0 x1 x2 x3 : Int} {x4 : Bool} {nf : FuncId} (h : Words w bk bw ws) (hp : Row w bp 97 (pendB bq own (fnV 64) saw hand ps sum ans))
    (hf : Calls Tryd.prog 64 #[.pointer (some ⟨bp, 0, none⟩)] (w.alloc (.cells noDid.toArray 39)) (SteppedB (w.alloc (.cells noDid.toArray 39)) bk bw bp ws' (pendB bq own (fnV nf) saw' hand' ps' sum' ans') (.agg #[.int .u8 x0, .int .i64 x1, .int .u64 x2, .int .u64 x3, .bool x4]))) :
    Calls Tryd.prog 9 #[.pointer (some ⟨bp, 0, none⟩)] w (SteppedB w bk bw bp ws' (pendB bq own (fnV nf) saw' hand' ps' sum' ans') (.tuple #[.agg #[.int .u8 x0, .int .i64 x1, .int .u64 x2, .int .u64 x3, .bool x4], .bool false])) := by
  have c2 : w.cell? ⟨bp, 2, none⟩ = some (.func (.func 64) #[] #[]) := hp.cell 2
  have hbp := hp.lt
  have hbw := h.row.lt
  have H := Lib.hid h
  have HP := Lib.hid hp
  have hf' : Calls Tryd.prog 64 #[.pointer (some ⟨bp, 0, none⟩)] (w.alloc (.cells #[.int .u8 0, .int .i64 0, .int .u64 0, .int .u64 0, .bool false] 39)) (SteppedB (w.alloc (.cells noDid.toArray 39)) bk bw bp ws' (pendB bq own (fnV nf) saw' hand' ps' sum' ans') (.agg #[.int .u8 x0, .int .i64 x1, .int .u64 x2, .int .u64 x3, .bool x4])) := hf
  have HF := Lib.hid hf'
  have HM1 : Hid (w.heap.size ∉ [bw, bp]) := Lib.hid (by simp; omega)
  clear h hp hf hf'
  go_enter Tryd.func9, Tryd.ntmps9
  go_wp2_with (first
    | (go_at_call 11; refine (bdone_no (HP.out.alloc _)).mono ?_; rintro e wx ⟨rfl, rfl⟩)
    | (go_at_call 64; (with_reducible refine HF.out.mono ?_); rintro e w2 ⟨rfl, hW2, hR2, hP2⟩; have HW2 := Lib.hid hW2; have HR2 := Lib.hid hR2; have HP2 := Lib.hid hP2; have hr0 : Row w2 w.heap.size 39 noDid := Row.part (Row.new w _ _) hP2 HM1.out; unfold noDid at hr0; obtain ⟨d0, d1, d2, d3, d4⟩ := hr0.five; have df := hr0.free; have dlt := hr0.lt; clear hr0 hW2 hR2 hP2))
  go_region_with (first
    | (go_at_call 11; (with_reducible refine (bdone_no (HR2.out.alloc _).drew).mono ?_); rintro e wx ⟨rfl, rfl⟩))
  all_goals
    go_wp2_with fail
    refine bodyPost_ret (v := .tuple #[.agg #[.int .u8 x0, .int .i64 x1, .int .u64 x2, .int .u64 x3, .bool x4], .bool false]) (by simp [results, Tryd.results9, go_sem, d0, d1, d2, d3, d4, dlt]) rfl ⟨rfl, ?_⟩
    refine stepped_end H.out HP.out HW2.out HR2.out HP2.out ?_
    repeat (first | (with_reducible exact Part.refl _ _) | (with_reducible refine Part.drew ?_) | (with_reducible refine Part.alloc ?_ _) | refine Part.set ?_ (by simp) _)
theorem bstep_lookAtPool_true {w : World} {bk bw bp bq : Nat} {ws ws' : List Int} {own saw hand ps sum ans saw' hand' ps' sum' ans' x0 x1 x2 x3 : Int} {x4 : Bool} (h : Words w bk bw ws) (hp : Row w bp 97 (pendB bq own (fnV 64) saw hand ps sum ans))
    (hf : Calls Tryd.prog 64 #[.pointer (some ⟨bp, 0, none⟩)] (w.alloc (.cells noDid.toArray 39)) (SteppedB (w.alloc (.cells noDid.toArray 39)) bk bw bp ws' (pendB bq own .nilFunc saw' hand' ps' sum' ans') (.agg #[.int .u8 x0, .int .i64 x1, .int .u64 x2, .int .u64 x3, .bool x4]))) :
    Calls Tryd.prog 9 #[.pointer (some ⟨bp, 0, none⟩)] w (SteppedB w bk bw bp ws' (pendB bq own .nilFunc saw' hand' ps' sum' ans') (.tuple #[.agg #[.int .u8 x0, .int .i64 x1, .int .u64 x2, .int .u64 x3, .bool x4], .bool true])) := by
  have c2 : w.cell? ⟨bp, 2, none⟩ = some (.func (.func 64) #[] #[]) := hp.cell 2
  have hbp := hp.lt
  have hbw := h.row.lt
  have H := Lib.hid h
  have HP := Lib.hid hp
  have hf' : Calls Tryd.prog 64 #[.pointer (some ⟨bp, 0, none⟩)] (w.alloc (.cells #[.int .u8 0, .int .i64 0, .int .u64 0, .int .u64 0, .bool false] 39)) (SteppedB (w.alloc (.cells noDid.toArray 39)) bk bw bp ws' (pendB bq own .nilFunc saw' hand' ps' sum' ans') (.agg #[.int .u8 x0, .int .i64 x1, .int .u64 x2, .int .u64 x3, .bool x4])) := hf
  have HF := Lib.hid hf'
  have HM1 : Hid (w.heap.size ∉ [bw, bp]) := Lib.hid (by simp; omega)
  clear h hp hf hf'
  go_enter Tryd.func9, Tryd.ntmps9
  go_wp2_with (first
    | (go_at_call 11; refine (bdone_no (HP.out.alloc _)).mono ?_; rintro e wx ⟨rfl, rfl⟩)
    | (go_at_call 64; (with_reducible refine HF.out.mono ?_); rintro e w2 ⟨rfl, hW2, hR2, hP2⟩; have HW2 := Lib.hid hW2; have HR2 := Lib.hid hR2; have HP2 := Lib.hid hP2; have hr0 : Row w2 w.heap.size 39 noDid := Row.part (Row.new w _ _) hP2 HM1.out; unfold noDid at hr0; obtain ⟨d0, d1, d2, d3, d4⟩ := hr0.five; have df := hr0.free; have dlt := hr0.lt; clear hr0 hW2 hR2 hP2))
  go_region_with (first
    | (go_at_call 11; (with_reducible refine (bdone_yes (HR2.out.alloc _).drew).mono ?_); rintro e wx ⟨rfl, rfl⟩))
  all_goals
    go_wp2_with fail
    refine bodyPost_ret (v := .tuple #[.agg #[.int .u8 x0, .int .i64 x1, .int .u64 x2, .int .u64 x3, .bool x4], .bool true]) (by simp [results, Tryd.results9, go_sem, d0, d1, d2, d3, d4, dlt]) rfl ⟨rfl, ?_⟩
    refine stepped_end H.out HP.out HW2.out HR2.out HP2.out ?_
    repeat (first | (with_reducible exact Part.refl _ _) | (with_reducible refine Part.drew ?_) | (with_reducible refine Part.alloc ?_ _) | refine Part.set ?_ (by simp) _)
theorem bstep_borrow_false {w : World} {bk bw bp bq : Nat} {ws ws' : List Int} {own saw hand ps sum ans saw' hand' ps' sum' ans' x0 x1 x2 x3 : Int} {x4 : Bool} {nf : FuncId} (h : Words w bk bw ws) (hp : Row w bp 97 (pendB bq own (fnV 88) saw hand ps sum ans))
    (hf : Calls Tryd.prog 88 #[.pointer (some ⟨bp, 0, none⟩)] (w.alloc (.cells noDid.toArray 39)) (SteppedB (w.alloc (.cells noDid.toArray 39)) bk bw bp ws' (pendB bq own (fnV nf) saw' hand' ps' sum' ans') (.agg #[.int .u8 x0, .int .i64 x1, .int .u64 x2, .int .u64 x3, .bool x4]))) :
    Calls Tryd.prog 9 #[.pointer (some ⟨bp, 0, none⟩)] w (SteppedB w bk bw bp ws' (pendB bq own (fnV nf) saw' hand' ps' sum' ans') (.tuple #[.agg #[.int .u8 x0, .int .i64 x1, .int .u64 x2, .int .u64 x3, .bool x4], .bool false])) := by
  have c2 : w.cell? ⟨bp, 2, none⟩ = some (.func (.func 88) #[] #[]) := hp.cell 2
  have hbp := hp.lt
  have hbw := h.row.lt
  have H := Lib.hid h
  have HP := Lib.hid hp
  have hf' : Calls Tryd.prog 88 #[.pointer (some ⟨bp, 0, none⟩)] (w.alloc (.cells #[.int .u8 0, .int .i64 0, .int .u64 0, .int .u64 0, .bool false] 39)) (SteppedB (w.alloc (.cells noDid.toArray 39)) bk bw bp ws' (pendB bq own (fnV nf) saw' hand' ps' sum' ans') (.agg #[.int .u8 x0, .int .i64 x1, .int .u64 x2, .int .u64 x3, .bool x4])) := hf
  have HF := Lib.hid hf'
  have HM1 : Hid (w.heap.size ∉ [bw, bp]) := Lib.hid (by simp; omega)
  clear h hp hf hf'
  go_enter Tryd.func9, Tryd.ntmps9
  go_wp2_with (first
    | (go_at_call 11; refine (bdone_no (HP.out.alloc _)).mono ?_; rintro e wx ⟨rfl, rfl⟩)
    | (go_at_call 88; (with_reducible refine HF.out.mono ?_); rintro e w2 ⟨rfl, hW2, hR2, hP2⟩; have HW2 := Lib.hid hW2; have HR2 := Lib.hid hR2; have HP2 := Lib.hid hP2; have hr0 : Row w2 w.heap.size 39 noDid := Row.part (Row.new w _ _) hP2 HM1.out; unfold noDid at hr0; obtain ⟨d0, d1, d2, d3, d4⟩ := hr0.five; have df := hr0.free; have dlt := hr0.lt; clear hr0 hW2 hR2 hP2))
  go_region_with (first
    | (go_at_call 11; (with_reducible refine (bdone_no (HR2.out.alloc _).drew).mono ?_); rintro e wx ⟨rfl, rfl⟩))
  all_goals
    go_wp2_with fail
    refine bodyPost_ret (v := .tuple #[.agg #[.int .u8 x0, .int .i64 x1, .int .u64 x2, .int .u64 x3, .bool x4], .bool false]) (by simp [results, Tryd.results9, go_sem, d0, d1, d2, d3, d4, dlt]) rfl ⟨rfl, ?_⟩
    refine stepped_end H.out HP.out HW2.out HR2.out HP2.out ?_
    repeat (first | (with_reducible exact Part.refl _ _) | (with_reducible refine Part.drew ?_) | (with_reducible refine Part.alloc ?_ _) | refine Part.set ?_ (by simp) _)
theorem bstep_borrow_true {w : World} {bk bw bp bq : Nat} {ws ws' : List Int} {own saw hand ps sum ans saw' hand' ps' sum' ans' x0 x1 x2 x3 : Int} {x4 : Bool} (h : Words w bk bw ws) (hp : Row w bp 97 (pendB bq own (fnV 88) saw hand ps sum ans))
    (hf : Calls Tryd.prog 88 #[.pointer (some ⟨bp, 0, none⟩)] (w.alloc (.cells noDid.toArray 39)) (SteppedB (w.alloc (.cells noDid.toArray 39)) bk bw bp ws' (pendB bq own .nilFunc saw' hand' ps' sum' ans') (.agg #[.int .u8 x0, .int .i64 x1, .int .u64 x2, .int .u64 x3, .bool x4]))) :
    Calls Tryd.prog 9 #[.pointer (some ⟨bp, 0, none⟩)] w (SteppedB w bk bw bp ws' (pendB bq own .nilFunc saw' hand' ps' sum' ans') (.tuple #[.agg #[.int .u8 x0, .int .i64 x1, .int .u64 x2, .int .u64 x3, .bool x4], .bool true])) := by
  have c2 : w.cell? ⟨bp, 2, none⟩ = some (.func (.func 88) #[] #[]) := hp.cell 2
  have hbp := hp.lt
  have hbw := h.row.lt
  have H := Lib.hid h
  have HP := Lib.hid hp
  have hf' : Calls Tryd.prog 88 #[.pointer (some ⟨bp, 0, none⟩)] (w.alloc (.cells #[.int .u8 0, .int .i64 0, .int .u64 0, .int .u64 0, .bool false] 39)) (SteppedB (w.alloc (.cells noDid.toArray 39)) bk bw bp ws' (pendB bq own .nilFunc saw' hand' ps' sum' ans') (.agg #[.int .u8 x0, .int .i64 x1, .int .u64 x2, .int .u64 x3, .bool x4])) := hf
  have HF := Lib.hid hf'
  have HM1 : Hid (w.heap.size ∉ [bw, bp]) := Lib.hid (by simp; omega)
  clear h hp hf hf'
  go_enter Tryd.func9, Tryd.ntmps9
  go_wp2_with (first
    | (go_at_call 11; refine (bdone_no (HP.out.alloc _)).mono ?_; rintro e wx ⟨rfl, rfl⟩)
    | (go_at_call 88; (with_reducible refine HF.out.mono ?_); rintro e w2 ⟨rfl, hW2, hR2, hP2⟩; have HW2 := Lib.hid hW2; have HR2 := Lib.hid hR2; have HP2 := Lib.hid hP2; have hr0 : Row w2 w.heap.size 39 noDid := Row.part (Row.new w _ _) hP2 HM1.out; unfold noDid at hr0; obtain ⟨d0, d1, d2, d3, d4⟩ := hr0.five; have df := hr0.free; have dlt := hr0.lt; clear hr0 hW2 hR2 hP2))
  go_region_with (first
    | (go_at_call 11; (with_reducible refine (bdone_yes (HR2.out.alloc _).drew).mono ?_); rintro e wx ⟨rfl, rfl⟩))
  all_goals
    go_wp2_with fail
    refine bodyPost_ret (v := .tuple #[.agg #[.int .u8 x0, .int .i64 x1, .int .u64 x2, .int .u64 x3, .bool x4], .bool true]) (by simp [results, Tryd.results9, go_sem, d0, d1, d2, d3, d4, dlt]) rfl ⟨rfl, ?_⟩
    refine stepped_end H.out HP.out HW2.out HR2.out HP2.out ?_
    repeat (first | (with_reducible exact Part.refl _ _) | (with_reducible refine Part.drew ?_) | (with_reducible refine Part.alloc ?_ _) | refine Part.set ?_ (by simp) _)
theorem bstep_hold_true {w : World} {bk bw bp bq : Nat} {ws ws' : List Int} {own saw hand ps sum ans saw' hand' ps' sum' ans' x0 x1 x2 x3 : Int} {x4 : Bool} (h : Words w bk bw ws) (hp : Row w bp 97 (pendB bq own (fnV 105) saw hand ps sum ans))
    (hf : Calls Tryd.prog 105 #[.pointer (some ⟨bp, 0, none⟩)] (w.alloc (.cells noDid.toArray 39)) (SteppedB (w.alloc (.cells noDid.toArray 39)) bk bw bp ws' (pendB bq own .nilFunc saw' hand' ps' sum' ans') (.agg #[.int .u8 x0, .int .i64 x1, .int .u64 x2, .int .u64 x3, .bool x4]))) :
    Calls Tryd.prog 9 #[.pointer (some ⟨bp, 0, none⟩)] w (SteppedB w bk bw bp ws' (pendB bq own .nilFunc saw' hand' ps' sum' ans') (.tuple #[.agg #[.int .u8 x0, .int .i64 x1, .int .u64 x2, .int .u64 x3, .bool x4], .bool true])) := by
  have c2 : w.cell? ⟨bp, 2, none⟩ = some (.func (.func 105) #[] #[]) := hp.cell 2
  have hbp := hp.lt
  have hbw := h.row.lt
  have H := Lib.hid h
  have HP := Lib.hid hp
  have hf' : Calls Tryd.prog 105 #[.pointer (some ⟨bp, 0, none⟩)] (w.alloc (.cells #[.int .u8 0, .int .i64 0, .int .u64 0, .int .u64 0, .bool false] 39)) (SteppedB (w.alloc (.cells noDid.toArray 39)) bk bw bp ws' (pendB bq own .nilFunc saw' hand' ps' sum' ans') (.agg #[.int .u8 x0, .int .i64 x1, .int .u64 x2, .int .u64 x3, .bool x4])) := hf
  have HF := Lib.hid hf'
  have HM1 : Hid (w.heap.size ∉ [bw, bp]) := Lib.hid (by simp; omega)
  clear h hp hf hf'
  go_enter Tryd.func9, Tryd.ntmps9
  go_wp2_with (first
    | (go_at_call 11; refine (bdone_no (HP.out.alloc _)).mono ?_; rintro e wx ⟨rfl, rfl⟩)
    | (go_at_call 105; (with_reducible refine HF.out.mono ?_); rintro e w2 ⟨rfl, hW2, hR2, hP2⟩; have HW2 := Lib.hid hW2; have HR2 := Lib.hid hR2; have HP2 := Lib.hid hP2; have hr0 : Row w2 w.heap.size 39 noDid := Row.part (Row.new w _ _) hP2 HM1.out; unfold noDid at hr0; obtain ⟨d0, d1, d2, d3, d4⟩ := hr0.five; have df := hr0.free; have dlt := hr0.lt; clear hr0 hW2 hR2 hP2))
  go_region_with (first
    | (go_at_call 11; (with_reducible refine (bdone_yes (HR2.out.alloc _).drew).mono ?_); rintro e wx ⟨rfl, rfl⟩))
  all_goals
    go_wp2_with fail
    refine bodyPost_ret (v := .tuple #[.agg #[.int .u8 x0, .int .i64 x1, .int .u64 x2, .int .u64 x3, .bool x4], .bool true]) (by simp [results, Tryd.results9, go_sem, d0, d1, d2, d3, d4, dlt]) rfl ⟨rfl, ?_⟩
    refine stepped_end H.out HP.out HW2.out HR2.out HP2.out ?_
    repeat (first | (with_reducible exact Part.refl _ _) | (with_reducible refine Part.drew ?_) | (with_reducible refine Part.alloc ?_ _) | refine Part.set ?_ (by simp) _)
theorem bstep_empty_false {w : World} {bk bw bp bq : Nat} {ws ws' : List Int} {own saw hand ps sum ans saw' hand' ps' sum' ans' x0 x1 x2 x3 : Int} {x4 : Bool} {nf : FuncId} (h : Words w bk bw ws) (hp : Row w bp 97 (pendB bq own (fnV 37) saw hand ps sum ans))
    (hf : Calls Tryd.prog 37 #[.pointer (some ⟨bp, 0, none⟩)] (w.alloc (.cells noDid.toArray 39)) (SteppedB (w.alloc (.cells noDid.toArray 39)) bk bw bp ws' (pendB bq own (fnV nf) saw' hand' ps' sum' ans') (.agg #[.int .u8 x0, .int .i64 x1, .int .u64 x2, .int .u64 x3, .bool x4]))) :
    Calls Tryd.prog 9 #[.pointer (some ⟨bp, 0, none⟩)] w (SteppedB w bk bw bp ws' (pendB bq own (fnV nf) saw' hand' ps' sum' ans') (.tuple #[.agg #[.int .u8 x0, .int .i64 x1, .int .u64 x2, .int .u64 x3, .bool x4], .bool false])) := by
  have c2 : w.cell? ⟨bp, 2, none⟩ = some (.func (.func 37) #[] #[]) := hp.cell 2
  have hbp := hp.lt
  have hbw := h.row.lt
  have H := Lib.hid h
  have HP := Lib.hid hp
  have hf' : Calls Tryd.prog 37 #[.pointer (some ⟨bp, 0, none⟩)] (w.alloc (.cells #[.int .u8 0, .int .i64 0, .int .u64 0, .int .u64 0, .bool false] 39)) (SteppedB (w.alloc (.cells noDid.toArray 39)) bk bw bp ws' (pendB bq own (fnV nf) saw' hand' ps' sum' ans') (.agg #[.int .u8 x0, .int .i64 x1, .int .u64 x2, .int .u64 x3, .bool x4])) := hf
  have HF := Lib.hid hf'
  have HM1 : Hid (w.heap.size ∉ [bw, bp]) := Lib.hid (by simp; omega)
  clear h hp hf hf'
  go_enter Tryd.func9, Tryd.ntmps9
  go_wp2_with (first
    | (go_at_call 11; refine (bdone_no (HP.out.alloc _)).mono ?_; rintro e wx ⟨rfl, rfl⟩)
    | (go_at_call 37; (with_reducible refine HF.out.mono ?_); rintro e w2 ⟨rfl, hW2, hR2, hP2⟩; have HW2 := Lib.hid hW2; have HR2 := Lib.hid hR2; have HP2 := Lib.hid hP2; have hr0 : Row w2 w.heap.size 39 noDid := Row.part (Row.new w _ _) hP2 HM1.out; unfold noDid at hr0; obtain ⟨d0, d1, d2, d3, d4⟩ := hr0.five; have df := hr0.free; have dlt := hr0.lt; clear hr0 hW2 hR2 hP2))
  go_region_with (first
    | (go_at_call 11; (with_reducible refine (bdone_no (HR2.out.alloc _).drew).mono ?_); rintro e wx ⟨rfl, rfl⟩))
  all_goals
    go_wp2_with fail
    refine bodyPost_ret (v := .tuple #[.agg #[.int .u8 x0, .int .i64 x1, .int .u64 x2, .int .u64 x3, .bool x4], .bool false]) (by simp [results, Tryd.results9, go_sem, d0, d1, d2, d3, d4, dlt]) rfl ⟨rfl, ?_⟩
    refine stepped_end H.out HP.out HW2.out HR2.out HP2.out ?_
    repeat (first | (with_reducible exact Part.refl _ _) | (with_reducible refine Part.drew ?_) | (with_reducible refine Part.alloc ?_ _) | refine Part.set ?_ (by simp) _)
theorem bstep_empty_true {w : World} {bk bw bp bq : Nat} {ws ws' : List Int} {own saw hand ps sum ans saw' hand' ps' sum' ans' x0 x1 x2 x3 : Int} {x4 : Bool} (h : Words w bk bw ws) (hp : Row w bp 97 (pendB bq own (fnV 37) saw hand ps sum ans))
    (hf : Calls Tryd.prog 37 #[.pointer (some ⟨bp, 0, none⟩)] (w.alloc (.cells noDid.toArray 39)) (SteppedB (w.alloc (.cells noDid.toArray 39)) bk bw bp ws' (pendB bq own .nilFunc saw' hand' ps' sum' ans') (.agg #[.int .u8 x0, .int .i64 x1, .int .u64 x2, .int .u64 x3, .bool x4]))) :
    Calls Tryd.prog 9 #[.pointer (some ⟨bp, 0, none⟩)] w (SteppedB w bk bw bp ws' (pendB bq own .nilFunc saw' hand' ps' sum' ans') (.tuple #[.agg #[.int .u8 x0, .int .i64 x1, .int .u64 x2, .int .u64 x3, .bool x4], .bool true])) := by
  have c2 : w.cell? ⟨bp, 2, none⟩ = some (.func (.func 37) #[] #[]) := hp.cell 2
  have hbp := hp.lt
  have hbw := h.row.lt
  have H := Lib.hid h
  have HP := Lib.hid hp
  have hf' : Calls Tryd.prog 37 #[.pointer (some ⟨bp, 0, none⟩)] (w.alloc (.cells #[.int .u8 0, .int .i64 0, .int .u64 0, .int .u64 0, .bool false] 39)) (SteppedB (w.alloc (.cells noDid.toArray 39)) bk bw bp ws' (pendB bq own .nilFunc saw' hand' ps' sum' ans') (.agg #[.int .u8 x0, .int .i64 x1, .int .u64 x2, .int .u64 x3, .bool x4])) := hf
  have HF := Lib.hid hf'
  have HM1 : Hid (w.heap.size ∉ [bw, bp]) := Lib.hid (by simp; omega)
  clear h hp hf hf'
  go_enter Tryd.func9, Tryd.ntmps9
  go_wp2_with (first
    | (go_at_call 11; refine (bdone_no (HP.out.alloc _)).mono ?_; rintro e wx ⟨rfl, rfl⟩)
    | (go_at_call 37; (with_reducible refine HF.out.mono ?_); rintro e w2 ⟨rfl, hW2, hR2, hP2⟩; have HW2 := Lib.hid hW2; have HR2 := Lib.hid hR2; have HP2 := Lib.hid hP2; have hr0 : Row w2 w.heap.size 39 noDid := Row.part (Row.new w _ _) hP2 HM1.out; unfold noDid at hr0; obtain ⟨d0, d1, d2, d3, d4⟩ := hr0.five; have df := hr0.free; have dlt := hr0.lt; clear hr0 hW2 hR2 hP2))
  go_region_with (first
    | (go_at_call 11; (with_reducible refine (bdone_yes (HR2.out.alloc _).drew).mono ?_); rintro e wx ⟨rfl, rfl⟩))
  all_goals
    go_wp2_with fail
    refine bodyPost_ret (v := .tuple #[.agg #[.int .u8 x0, .int .i64 x1, .int .u64 x2, .int .u64 x3, .bool x4], .bool true]) (by simp [results, Tryd.results9, go_sem, d0, d1, d2, d3, d4, dlt]) rfl ⟨rfl, ?_⟩
    refine stepped_end H.out HP.out HW2.out HR2.out HP2.out ?_
    repeat (first | (with_reducible exact Part.refl _ _) | (with_reducible refine Part.drew ?_) | (with_reducible refine Part.alloc ?_ _) | refine Part.set ?_ (by simp) _)
theorem bstep_giveBack_true {w : World} {bk bw bp bq : Nat} {ws ws' : List Int} {own saw hand ps sum ans saw' hand' ps' sum' ans' x0 x1 x2 x3 : Int} {x4 : Bool} (h : Words w bk bw ws) (hp : Row w bp 97 (pendB bq own (fnV 65) saw hand ps sum ans))
    (hf : Calls Tryd.prog 65 #[.pointer (some ⟨bp, 0, none⟩)] (w.alloc (.cells noDid.toArray 39)) (SteppedB (w.alloc (.cells noDid.toArray 39)) bk bw bp ws' (pendB bq own .nilFunc saw' hand' ps' sum' ans') (.agg #[.int .u8 x0, .int .i64 x1, .int .u64 x2, .int .u64 x3, .bool x4]))) :
    Calls Tryd.prog 9 #[.pointer (some ⟨bp, 0, none⟩)] w (SteppedB w bk bw bp ws' (pendB bq own .nilFunc saw' hand' ps' sum' ans') (.tuple #[.agg #[.int .u8 x0, .int .i64 x1, .int .u64 x2, .int .u64 x3, .bool x4], .bool true])) := by
  have c2 : w.cell? ⟨bp, 2, none⟩ = some (.func (.func 65) #[] #[]) := hp.cell 2
  have hbp := hp.lt
  have hbw := h.row.lt
  have H := Lib.hid h
  have HP := Lib.hid hp
  have hf' : Calls Tryd.prog 65 #[.pointer (some ⟨bp, 0, none⟩)] (w.alloc (.cells #[.int .u8 0, .int .i64 0, .int .u64 0, .int .u64 0, .bool false] 39)) (SteppedB (w.alloc (.cells noDid.toArray 39)) bk bw bp ws' (pendB bq own .nilFunc saw' hand' ps' sum' ans') (.agg #[.int .u8 x0, .int .i64 x1, .int .u64 x2, .int .u64 x3, .bool x4])) := hf
  have HF := Lib.hid hf'
  have HM1 : Hid (w.heap.size ∉ [bw, bp]) := Lib.hid (by simp; omega)
  clear h hp hf hf'
  go_enter Tryd.func9, Tryd.ntmps9
  go_wp2_with (first
    | (go_at_call 11; refine (bdone_no (HP.out.alloc _)).mono ?_; rintro e wx ⟨rfl, rfl⟩)
    | (go_at_call 65; (with_reducible refine HF.out.mono ?_); rintro e w2 ⟨rfl, hW2, hR2, hP2⟩; have HW2 := Lib.hid hW2; have HR2 := Lib.hid hR2; have HP2 := Lib.hid hP2; have hr0 : Row w2 w.heap.size 39 noDid := Row.part (Row.new w _ _) hP2 HM1.out; unfold noDid at hr0; obtain ⟨d0, d1, d2, d3, d4⟩ := hr0.five; have df := hr0.free; have dlt := hr0.lt; clear hr0 hW2 hR2 hP2))
  go_region_with (first
    | (go_at_call 11; (with_reducible refine (bdone_yes (HR2.out.alloc _).drew).mono ?_); rintro e wx ⟨rfl, rfl⟩))
  all_goals
    go_wp2_with fail
    refine bodyPost_ret (v := .tuple #[.agg #[.int .u8 x0, .int .i64 x1, .int .u64 x2, .int .u64 x3, .bool x4], .bool true]) (by simp [results, Tryd.results9, go_sem, d0, d1, d2, d3, d4, dlt]) rfl ⟨rfl, ?_⟩
    refine stepped_end H.out HP.out HW2.out HR2.out HP2.out ?_
    repeat (first | (with_reducible exact Part.refl _ _) | (with_reducible refine Part.drew ?_) | (with_reducible refine Part.alloc ?_ _) | refine Part.set ?_ (by simp) _)
theorem bstep_gather_false {w : World} {bk bw bp bq : Nat} {ws ws' : List Int} {own saw hand ps sum ans saw' hand' ps' sum' ans' x0 x1 x2 x3 : Int} {x4 : Bool} {nf : FuncId} (h : Words w bk bw ws) (hp : Row w bp 97 (pendB bq own (fnV 38) saw hand ps sum ans))
    (hf : Calls Tryd.prog 38 #[.pointer (some ⟨bp, 0, none⟩)] (w.alloc (.cells noDid.toArray 39)) (SteppedB (w.alloc (.cells noDid.toArray 39)) bk bw bp ws' (pendB bq own (fnV nf) saw' hand' ps' sum' ans') (.agg #[.int .u8 x0, .int .i64 x1, .int .u64 x2, .int .u64 x3, .bool x4]))) :
    Calls Tryd.prog 9 #[.pointer (some ⟨bp, 0, none⟩)] w (SteppedB w bk bw bp ws' (pendB bq own (fnV nf) saw' hand' ps' sum' ans') (.tuple #[.agg #[.int .u8 x0, .int .i64 x1, .int .u64 x2, .int .u64 x3, .bool x4], .bool false])) := by
  have c2 : w.cell? ⟨bp, 2, none⟩ = some (.func (.func 38) #[] #[]) := hp.cell 2
  have hbp := hp.lt
  have hbw := h.row.lt
  have H := Lib.hid h
  have HP := Lib.hid hp
  have hf' : Calls Tryd.prog 38 #[.pointer (some ⟨bp, 0, none⟩)] (w.alloc (.cells #[.int .u8 0, .int .i64 0, .int .u64 0, .int .u64 0, .bool false] 39)) (SteppedB (w.alloc (.cells noDid.toArray 39)) bk bw bp ws' (pendB bq own (fnV nf) saw' hand' ps' sum' ans') (.agg #[.int .u8 x0, .int .i64 x1, .int .u64 x2, .int .u64 x3, .bool x4])) := hf
  have HF := Lib.hid hf'
  have HM1 : Hid (w.heap.size ∉ [bw, bp]) := Lib.hid (by simp; omega)
  clear h hp hf hf'
  go_enter Tryd.func9, Tryd.ntmps9
  go_wp2_with (first
    | (go_at_call 11; refine (bdone_no (HP.out.alloc _)).mono ?_; rintro e wx ⟨rfl, rfl⟩)
    | (go_at_call 38; (with_reducible refine HF.out.mono ?_); rintro e w2 ⟨rfl, hW2, hR2, hP2⟩; have HW2 := Lib.hid hW2; have HR2 := Lib.hid hR2; have HP2 := Lib.hid hP2; have hr0 : Row w2 w.heap.size 39 noDid := Row.part (Row.new w _ _) hP2 HM1.out; unfold noDid at hr0; obtain ⟨d0, d1, d2, d3, d4⟩ := hr0.five; have df := hr0.free; have dlt := hr0.lt; clear hr0 hW2 hR2 hP2))
  go_region_with (first
    | (go_at_call 11; (with_reducible refine (bdone_no (HR2.out.alloc _).drew).mono ?_); rintro e wx ⟨rfl, rfl⟩))
  all_goals
    go_wp2_with fail
    refine bodyPost_ret (v := .tuple #[.agg #[.int .u8 x0, .int .i64 x1, .int .u64 x2, .int .u64 x3, .bool x4], .bool false]) (by simp [results, Tryd.results9, go_sem, d0, d1, d2, d3, d4, dlt]) rfl ⟨rfl, ?_⟩
    refine stepped_end H.out HP.out HW2.out HR2.out HP2.out ?_
    repeat (first | (with_reducible exact Part.refl _ _) | (with_reducible refine Part.drew ?_) | (with_reducible refine Part.alloc ?_ _) | refine Part.set ?_ (by simp) _)
theorem bstep_gather_true {w : World} {bk bw bp bq : Nat} {ws ws' : List Int} {own saw hand ps sum ans saw' hand' ps' sum' ans' x0 x1 x2 x3 : Int} {x4 : Bool} (h : Words w bk bw ws) (hp : Row w bp 97 (pendB bq own (fnV 38) saw hand ps sum ans))
    (hf : Calls Tryd.prog 38 #[.pointer (some ⟨bp, 0, none⟩)] (w.alloc (.cells noDid.toArray 39)) (SteppedB (w.alloc (.cells noDid.toArray 39)) bk bw bp ws' (pendB bq own .nilFunc saw' hand' ps' sum' ans') (.agg #[.int .u8 x0, .int .i64 x1, .int .u64 x2, .int .u64 x3, .bool x4]))) :
    Calls Tryd.prog 9 #[.pointer (some ⟨bp, 0, none⟩)] w (SteppedB w bk bw bp ws' (pendB bq own .nilFunc saw' hand' ps' sum' ans') (.tuple #[.agg #[.int .u8 x0, .int .i64 x1, .int .u64 x2, .int .u64 x3, .bool x4], .bool true])) := by
  have c2 : w.cell? ⟨bp, 2, none⟩ = some (.func (.func 38) #[] #[]) := hp.cell 2
  have hbp := hp.lt
  have hbw := h.row.lt
  have H := Lib.hid h
  have HP := Lib.hid hp
  have hf' : Calls Tryd.prog 38 #[.pointer (some ⟨bp, 0, none⟩)] (w.alloc (.cells #[.int .u8 0, .int .i64 0, .int .u64 0, .int .u64 0, .bool false] 39)) (SteppedB (w.alloc (.cells noDid.toArray 39)) bk bw bp ws' (pendB bq own .nilFunc saw' hand' ps' sum' ans') (.agg #[.int .u8 x0, .int .i64 x1, .int .u64 x2, .int .u64 x3, .bool x4])) := hf
  have HF := Lib.hid hf'
  have HM1 : Hid (w.heap.size ∉ [bw, bp]) := Lib.hid (by simp; omega)
  clear h hp hf hf'
  go_enter Tryd.func9, Tryd.ntmps9
  go_wp2_with (first
    | (go_at_call 11; refine (bdone_no (HP.out.alloc _)).mono ?_; rintro e wx ⟨rfl, rfl⟩)
    | (go_at_call 38; (with_reducible refine HF.out.mono ?_); rintro e w2 ⟨rfl, hW2, hR2, hP2⟩; have HW2 := Lib.hid hW2; have HR2 := Lib.hid hR2; have HP2 := Lib.hid hP2; have hr0 : Row w2 w.heap.size 39 noDid := Row.part (Row.new w _ _) hP2 HM1.out; unfold noDid at hr0; obtain ⟨d0, d1, d2, d3, d4⟩ := hr0.five; have df := hr0.free; have dlt := hr0.lt; clear hr0 hW2 hR2 hP2))
  go_region_with (first
    | (go_at_call 11; (with_reducible refine (bdone_yes (HR2.out.alloc _).drew).mono ?_); rintro e wx ⟨rfl, rfl⟩))
  all_goals
    go_wp2_with fail
    refine bodyPost_ret (v := .tuple #[.agg #[.int .u8 x0, .int .i64 x1, .int .u64 x2, .int .u64 x3, .bool x4], .bool true]) (by simp [results, Tryd.results9, go_sem, d0, d1, d2, d3, d4, dlt]) rfl ⟨rfl, ?_⟩
    refine stepped_end H.out HP.out HW2.out HR2.out HP2.out ?_
    repeat (first | (with_reducible exact Part.refl _ _) | (with_reducible refine Part.drew ?_) | (with_reducible refine Part.alloc ?_ _) | refine Part.set ?_ (by simp) _)
end Go.Proofs.YteoekkhgpdhnhaaDoor
