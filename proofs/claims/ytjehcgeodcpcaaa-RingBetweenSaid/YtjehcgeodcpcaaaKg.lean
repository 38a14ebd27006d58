/- THE WALKS of package ring: Step, over what a step's function leaves. -/
import Derived.Test.YtjehcgeodcpcaaaKd
namespace Go.Proofs.Ytjehcgeodcpcaaa
open Go Go.RowKit

theorem steppedN_end {w w2 wf : World} {bk bw bp : Nat} {ws ws' : List Int} {l l' : List Value} {o : Obj} (h : Words w bk bw ws) (hp : Row w bp 77 l) (hW : Words w2 bk bw ws') (hr : Row w2 bp 77 l') (hP : Part [bw, bp] (w.alloc o) w2) (hE : Part [w.heap.size] w2 wf) :
    Words wf bk bw ws' ∧ Row wf bp 77 l' ∧ Part [bw, bp] w wf := by
  have h1 := h.head.lt
  have h2 := h.row.lt
  have h3 := hp.lt
  refine ⟨hW.part hE (by simp; omega) (by simp; omega), hr.part hE (by simp; omega), Part.trans (S' := [w.heap.size]) (Part.trans (S' := [bw, bp]) ((Part.refl [bw, bp] w).alloc _) hP (fun _ _ hm => hm)) hE (fun q hq hm => ?_)⟩
  simp at hm
  omega

set_option maxHeartbeats 1600000
set_option maxRecDepth 100000
theorem nstep_load_end {w : World} {br bk bw bp : Nat} {wd tick tick' last n saw put ans why saw' put' ans' why' x0 x1 x2 x3 : Int} {ws ws' : List Int} {x4 : Bool} (h : Rng w br bk bw wd ws) (hp : Row w bp 77 (pendN br tick last n saw put (fnV 27) ans why))
    (hf : ∀ w1, Rng w1 br bk bw wd ws → Row w1 bp 77 (pendN br tick last n saw put (fnV 27) ans why) → Calls Try.prog 27 #[.pointer (some ⟨bp, 0, none⟩)] w1 (SteppedN w1 bk bw bp ws' (pendN br tick' last n saw' put' .nilFunc ans' why') (.agg #[.int .u8 x0, .int .i64 x1, .int .u64 x2, .int .u64 x3, .bool x4]))) :
    Calls Try.prog 13 #[.pointer (some ⟨bp, 0, none⟩)] w (SteppedN w bk bw bp ws' (pendN br tick' last n saw' put' .nilFunc ans' why') (.tuple #[.agg #[.int .u8 x0, .int .i64 x1, .int .u64 x2, .int .u64 x3, .bool x4], .bool true])) := by
  obtain ⟨c0, c1, c2, c3, c4, c5, c6, c7, c8⟩ := pendN_cells hp
  unfold fnV at c6
  have hbp := hp.lt
  have hbw := h.words.row.lt
  have H := Lib.hid h
  have HP := Lib.hid hp
  have HF := Lib.hid hf
  have HM1 : Hid (w.heap.size ∉ [bw, bp]) := Lib.hid (by simp; omega)
  clear h hp hf
  go_enter Try.func13, Try.ntmps13
  go_wp2_with (first
    | (go_at_call 16; refine (ndone_no (HP.out.alloc _)).mono ?_; rintro e wx ⟨rfl, rfl⟩)
    | (go_at_call 27; refine (HF.out _ (H.out.alloc _) (HP.out.alloc _)).mono ?_; rintro e w2 ⟨rfl, hW2, hR2, hP2⟩; have HW2 := Lib.hid hW2; have HR2 := Lib.hid hR2; have HP2 := Lib.hid hP2; have hr0 : Row w2 w.heap.size 48 noDid := Row.part (Row.new w _ _) hP2 HM1.out; unfold noDid at hr0; obtain ⟨d0, d1, d2, d3, d4⟩ := hr0.five; have df := hr0.free; have dlt := hr0.lt; clear hr0 hW2 hR2 hP2))
  go_region_with (first
    | (go_at_call 16; (with_reducible refine (ndone_yes (HR2.out.alloc _).drew).mono ?_); rintro e wx ⟨rfl, rfl⟩))
  all_goals
    go_wp2_with fail
    refine bodyPost_ret (v := .tuple #[.agg #[.int .u8 x0, .int .i64 x1, .int .u64 x2, .int .u64 x3, .bool x4], .bool true]) (by simp [results, Try.results13, go_sem, d0, d1, d2, d3, d4, dlt]) rfl ⟨rfl, ?_⟩
    refine steppedN_end H.out.words HP.out HW2.out HR2.out HP2.out ?_
    repeat (first | (with_reducible exact Part.refl _ _) | (with_reducible refine Part.drew ?_) | (with_reducible refine Part.alloc ?_ _) | refine Part.set ?_ (by simp) _)
theorem nstep_load_swap {w : World} {br bk bw bp : Nat} {wd tick tick' last n saw put ans why saw' put' ans' why' x0 x1 x2 x3 : Int} {ws ws' : List Int} {x4 : Bool} (h : Rng w br bk bw wd ws) (hp : Row w bp 77 (pendN br tick last n saw put (fnV 27) ans why))
    (hf : ∀ w1, Rng w1 br bk bw wd ws → Row w1 bp 77 (pendN br tick last n saw put (fnV 27) ans why) → Calls Try.prog 27 #[.pointer (some ⟨bp, 0, none⟩)] w1 (SteppedN w1 bk bw bp ws' (pendN br tick' last n saw' put' (fnV 39) ans' why') (.agg #[.int .u8 x0, .int .i64 x1, .int .u64 x2, .int .u64 x3, .bool x4]))) :
    Calls Try.prog 13 #[.pointer (some ⟨bp, 0, none⟩)] w (SteppedN w bk bw bp ws' (pendN br tick' last n saw' put' (fnV 39) ans' why') (.tuple #[.agg #[.int .u8 x0, .int .i64 x1, .int .u64 x2, .int .u64 x3, .bool x4], .bool false])) := by
  obtain ⟨c0, c1, c2, c3, c4, c5, c6, c7, c8⟩ := pendN_cells hp
  unfold fnV at c6
  have hbp := hp.lt
  have hbw := h.words.row.lt
  have H := Lib.hid h
  have HP := Lib.hid hp
  have HF := Lib.hid hf
  have HM1 : Hid (w.heap.size ∉ [bw, bp]) := Lib.hid (by simp; omega)
  clear h hp hf
  go_enter Try.func13, Try.ntmps13
  go_wp2_with (first
    | (go_at_call 16; refine (ndone_no (HP.out.alloc _)).mono ?_; rintro e wx ⟨rfl, rfl⟩)
    | (go_at_call 27; refine (HF.out _ (H.out.alloc _) (HP.out.alloc _)).mono ?_; rintro e w2 ⟨rfl, hW2, hR2, hP2⟩; have HW2 := Lib.hid hW2; have HR2 := Lib.hid hR2; have HP2 := Lib.hid hP2; have hr0 : Row w2 w.heap.size 48 noDid := Row.part (Row.new w _ _) hP2 HM1.out; unfold noDid at hr0; obtain ⟨d0, d1, d2, d3, d4⟩ := hr0.five; have df := hr0.free; have dlt := hr0.lt; clear hr0 hW2 hR2 hP2))
  go_region_with (first
    | (go_at_call 16; (with_reducible refine (ndone_no (HR2.out.alloc _).drew).mono ?_); rintro e wx ⟨rfl, rfl⟩))
  all_goals
    go_wp2_with fail
    refine bodyPost_ret (v := .tuple #[.agg #[.int .u8 x0, .int .i64 x1, .int .u64 x2, .int .u64 x3, .bool x4], .bool false]) (by simp [results, Try.results13, go_sem, d0, d1, d2, d3, d4, dlt]) rfl ⟨rfl, ?_⟩
    refine steppedN_end H.out.words HP.out HW2.out HR2.out HP2.out ?_
    repeat (first | (with_reducible exact Part.refl _ _) | (with_reducible refine Part.drew ?_) | (with_reducible refine Part.alloc ?_ _) | refine Part.set ?_ (by simp) _)
theorem nstep_swap_end {w : World} {br bk bw bp : Nat} {wd tick tick' last n saw put ans why saw' put' ans' why' x0 x1 x2 x3 : Int} {ws ws' : List Int} {x4 : Bool} (h : Rng w br bk bw wd ws) (hp : Row w bp 77 (pendN br tick last n saw put (fnV 39) ans why))
    (hf : ∀ w1, Rng w1 br bk bw wd ws → Row w1 bp 77 (pendN br tick last n saw put (fnV 39) ans why) → Calls Try.prog 39 #[.pointer (some ⟨bp, 0, none⟩)] w1 (SteppedN w1 bk bw bp ws' (pendN br tick' last n saw' put' .nilFunc ans' why') (.agg #[.int .u8 x0, .int .i64 x1, .int .u64 x2, .int .u64 x3, .bool x4]))) :
    Calls Try.prog 13 #[.pointer (some ⟨bp, 0, none⟩)] w (SteppedN w bk bw bp ws' (pendN br tick' last n saw' put' .nilFunc ans' why') (.tuple #[.agg #[.int .u8 x0, .int .i64 x1, .int .u64 x2, .int .u64 x3, .bool x4], .bool true])) := by
  obtain ⟨c0, c1, c2, c3, c4, c5, c6, c7, c8⟩ := pendN_cells hp
  unfold fnV at c6
  have hbp := hp.lt
  have hbw := h.words.row.lt
  have H := Lib.hid h
  have HP := Lib.hid hp
  have HF := Lib.hid hf
  have HM1 : Hid (w.heap.size ∉ [bw, bp]) := Lib.hid (by simp; omega)
  clear h hp hf
  go_enter Try.func13, Try.ntmps13
  go_wp2_with (first
    | (go_at_call 16; refine (ndone_no (HP.out.alloc _)).mono ?_; rintro e wx ⟨rfl, rfl⟩)
    | (go_at_call 39; refine (HF.out _ (H.out.alloc _) (HP.out.alloc _)).mono ?_; rintro e w2 ⟨rfl, hW2, hR2, hP2⟩; have HW2 := Lib.hid hW2; have HR2 := Lib.hid hR2; have HP2 := Lib.hid hP2; have hr0 : Row w2 w.heap.size 48 noDid := Row.part (Row.new w _ _) hP2 HM1.out; unfold noDid at hr0; obtain ⟨d0, d1, d2, d3, d4⟩ := hr0.five; have df := hr0.free; have dlt := hr0.lt; clear hr0 hW2 hR2 hP2))
  go_region_with (first
    | (go_at_call 16; (with_reducible refine (ndone_yes (HR2.out.alloc _).drew).mono ?_); rintro e wx ⟨rfl, rfl⟩))
  all_goals
    go_wp2_with fail
    refine bodyPost_ret (v := .tuple #[.agg #[.int .u8 x0, .int .i64 x1, .int .u64 x2, .int .u64 x3, .bool x4], .bool true]) (by simp [results, Try.results13, go_sem, d0, d1, d2, d3, d4, dlt]) rfl ⟨rfl, ?_⟩
    refine steppedN_end H.out.words HP.out HW2.out HR2.out HP2.out ?_
    repeat (first | (with_reducible exact Part.refl _ _) | (with_reducible refine Part.drew ?_) | (with_reducible refine Part.alloc ?_ _) | refine Part.set ?_ (by simp) _)
theorem nstep_swap_load {w : World} {br bk bw bp : Nat} {wd tick tick' last n saw put ans why saw' put' ans' why' x0 x1 x2 x3 : Int} {ws ws' : List Int} {x4 : Bool} (h : Rng w br bk bw wd ws) (hp : Row w bp 77 (pendN br tick last n saw put (fnV 39) ans why))
    (hf : ∀ w1, Rng w1 br bk bw wd ws → Row w1 bp 77 (pendN br tick last n saw put (fnV 39) ans why) → Calls Try.prog 39 #[.pointer (some ⟨bp, 0, none⟩)] w1 (SteppedN w1 bk bw bp ws' (pendN br tick' last n saw' put' (fnV 27) ans' why') (.agg #[.int .u8 x0, .int .i64 x1, .int .u64 x2, .int .u64 x3, .bool x4]))) :
    Calls Try.prog 13 #[.pointer (some ⟨bp, 0, none⟩)] w (SteppedN w bk bw bp ws' (pendN br tick' last n saw' put' (fnV 27) ans' why') (.tuple #[.agg #[.int .u8 x0, .int .i64 x1, .int .u64 x2, .int .u64 x3, .bool x4], .bool false])) := by
  obtain ⟨c0, c1, c2, c3, c4, c5, c6, c7, c8⟩ := pendN_cells hp
  unfold fnV at c6
  have hbp := hp.lt
  have hbw := h.words.row.lt
  have H := Lib.hid h
  have HP := Lib.hid hp
  have HF := Lib.hid hf
  have HM1 : Hid (w.heap.size ∉ [bw, bp]) := Lib.hid (by simp; omega)
  clear h hp hf
  go_enter Try.func13, Try.ntmps13
  go_wp2_with (first
    | (go_at_call 16; refine (ndone_no (HP.out.alloc _)).mono ?_; rintro e wx ⟨rfl, rfl⟩)
    | (go_at_call 39; refine (HF.out _ (H.out.alloc _) (HP.out.alloc _)).mono ?_; rintro e w2 ⟨rfl, hW2, hR2, hP2⟩; have HW2 := Lib.hid hW2; have HR2 := Lib.hid hR2; have HP2 := Lib.hid hP2; have hr0 : Row w2 w.heap.size 48 noDid := Row.part (Row.new w _ _) hP2 HM1.out; unfold noDid at hr0; obtain ⟨d0, d1, d2, d3, d4⟩ := hr0.five; have df := hr0.free; have dlt := hr0.lt; clear hr0 hW2 hR2 hP2))
  go_region_with (first
    | (go_at_call 16; (with_reducible refine (ndone_no (HR2.out.alloc _).drew).mono ?_); rintro e wx ⟨rfl, rfl⟩))
  all_goals
    go_wp2_with fail
    refine bodyPost_ret (v := .tuple #[.agg #[.int .u8 x0, .int .i64 x1, .int .u64 x2, .int .u64 x3, .bool x4], .bool false]) (by simp [results, Try.results13, go_sem, d0, d1, d2, d3, d4, dlt]) rfl ⟨rfl, ?_⟩
    refine steppedN_end H.out.words HP.out HW2.out HR2.out HP2.out ?_
    repeat (first | (with_reducible exact Part.refl _ _) | (with_reducible refine Part.drew ?_) | (with_reducible refine Part.alloc ?_ _) | refine Part.set ?_ (by simp) _)
theorem nstep_gather_end {w : World} {br bk bw bp : Nat} {wd tick tick' last n saw put ans why saw' put' ans' why' x0 x1 x2 x3 : Int} {ws ws' : List Int} {x4 : Bool} (h : Rng w br bk bw wd ws) (hp : Row w bp 77 (pendN br tick last n saw put (fnV 29) ans why))
    (hf : ∀ w1, Rng w1 br bk bw wd ws → Row w1 bp 77 (pendN br tick last n saw put (fnV 29) ans why) → Calls Try.prog 29 #[.pointer (some ⟨bp, 0, none⟩)] w1 (SteppedN w1 bk bw bp ws' (pendN br tick' last n saw' put' .nilFunc ans' why') (.agg #[.int .u8 x0, .int .i64 x1, .int .u64 x2, .int .u64 x3, .bool x4]))) :
    Calls Try.prog 13 #[.pointer (some ⟨bp, 0, none⟩)] w (SteppedN w bk bw bp ws' (pendN br tick' last n saw' put' .nilFunc ans' why') (.tuple #[.agg #[.int .u8 x0, .int .i64 x1, .int .u64 x2, .int .u64 x3, .bool x4], .bool true])) := by
  obtain ⟨c0, c1, c2, c3, c4, c5, c6, c7, c8⟩ := pendN_cells hp
  unfold fnV at c6
  have hbp := hp.lt
  have hbw := h.words.row.lt
  have H := Lib.hid h
  have HP := Lib.hid hp
  have HF := Lib.hid hf
  have HM1 : Hid (w.heap.size ∉ [bw, bp]) := Lib.hid (by simp; omega)
  clear h hp hf
  go_enter Try.func13, Try.ntmps13
  go_wp2_with (first
    | (go_at_call 16; refine (ndone_no (HP.out.alloc _)).mono ?_; rintro e wx ⟨rfl, rfl⟩)
    | (go_at_call 29; refine (HF.out _ (H.out.alloc _) (HP.out.alloc _)).mono ?_; rintro e w2 ⟨rfl, hW2, hR2, hP2⟩; have HW2 := Lib.hid hW2; have HR2 := Lib.hid hR2; have HP2 := Lib.hid hP2; have hr0 : Row w2 w.heap.size 48 noDid := Row.part (Row.new w _ _) hP2 HM1.out; unfold noDid at hr0; obtain ⟨d0, d1, d2, d3, d4⟩ := hr0.five; have df := hr0.free; have dlt := hr0.lt; clear hr0 hW2 hR2 hP2))
  go_region_with (first
    | (go_at_call 16; (with_reducible refine (ndone_yes (HR2.out.alloc _).drew).mono ?_); rintro e wx ⟨rfl, rfl⟩))
  all_goals
    go_wp2_with fail
    refine bodyPost_ret (v := .tuple #[.agg #[.int .u8 x0, .int .i64 x1, .int .u64 x2, .int .u64 x3, .bool x4], .bool true]) (by simp [results, Try.results13, go_sem, d0, d1, d2, d3, d4, dlt]) rfl ⟨rfl, ?_⟩
    refine steppedN_end H.out.words HP.out HW2.out HR2.out HP2.out ?_
    repeat (first | (with_reducible exact Part.refl _ _) | (with_reducible refine Part.drew ?_) | (with_reducible refine Part.alloc ?_ _) | refine Part.set ?_ (by simp) _)
theorem nstep_gather_gather {w : World} {br bk bw bp : Nat} {wd tick tick' last n saw put ans why saw' put' ans' why' x0 x1 x2 x3 : Int} {ws ws' : List Int} {x4 : Bool} (h : Rng w br bk bw wd ws) (hp : Row w bp 77 (pendN br tick last n saw put (fnV 29) ans why))
    (hf : ∀ w1, Rng w1 br bk bw wd ws → Row w1 bp 77 (pendN br tick last n saw put (fnV 29) ans why) → Calls Try.prog 29 #[.pointer (some ⟨bp, 0, none⟩)] w1 (SteppedN w1 bk bw bp ws' (pendN br tick' last n saw' put' (fnV 29) ans' why') (.agg #[.int .u8 x0, .int .i64 x1, .int .u64 x2, .int .u64 x3, .bool x4]))) :
    Calls Try.prog 13 #[.pointer (some ⟨bp, 0, none⟩)] w (SteppedN w bk bw bp ws' (pendN br tick' last n saw' put' (fnV 29) ans' why') (.tuple #[.agg #[.int .u8 x0, .int .i64 x1, .int .u64 x2, .int .u64 x3, .bool x4], .bool false])) := by
  obtain ⟨c0, c1, c2, c3, c4, c5, c6, c7, c8⟩ := pendN_cells hp
  unfold fnV at c6
  have hbp := hp.lt
  have hbw := h.words.row.lt
  have H := Lib.hid h
  have HP := Lib.hid hp
  have HF := Lib.hid hf
  have HM1 : Hid (w.heap.size ∉ [bw, bp]) := Lib.hid (by simp; omega)
  clear h hp hf
  go_enter Try.func13, Try.ntmps13
  go_wp2_with (first
    | (go_at_call 16; refine (ndone_no (HP.out.alloc _)).mono ?_; rintro e wx ⟨rfl, rfl⟩)
    | (go_at_call 29; refine (HF.out _ (H.out.alloc _) (HP.out.alloc _)).mono ?_; rintro e w2 ⟨rfl, hW2, hR2, hP2⟩; have HW2 := Lib.hid hW2; have HR2 := Lib.hid hR2; have HP2 := Lib.hid hP2; have hr0 : Row w2 w.heap.size 48 noDid := Row.part (Row.new w _ _) hP2 HM1.out; unfold noDid at hr0; obtain ⟨d0, d1, d2, d3, d4⟩ := hr0.five; have df := hr0.free; have dlt := hr0.lt; clear hr0 hW2 hR2 hP2))
  go_region_with (first
    | (go_at_call 16; (with_reducible refine (ndone_no (HR2.out.alloc _).drew).mono ?_); rintro e wx ⟨rfl, rfl⟩))
  all_goals
    go_wp2_with fail
    refine bodyPost_ret (v := .tuple #[.agg #[.int .u8 x0, .int .i64 x1, .int .u64 x2, .int .u64 x3, .bool x4], .bool false]) (by simp [results, Try.results13, go_sem, d0, d1, d2, d3, d4, dlt]) rfl ⟨rfl, ?_⟩
    refine steppedN_end H.out.words HP.out HW2.out HR2.out HP2.out ?_
    repeat (first | (with_reducible exact Part.refl _ _) | (with_reducible refine Part.drew ?_) | (with_reducible refine Part.alloc ?_ _) | refine Part.set ?_ (by simp) _)
/-- Step of one that has ended -/
theorem nstep_over {w : World} {br bp : Nat} {tick last n saw put ans why : Int} (hp : Row w bp 77 (pendN br tick last n saw put .nilFunc ans why)) :
    Calls Try.prog 13 #[.pointer (some ⟨bp, 0, none⟩)] w fun e w' => e = .returned (.tuple #[.agg #[.int .u8 0, .int .i64 0, .int .u64 0, .int .u64 0, .bool false], .bool true]) ∧ Below w.heap.size w w' := by
  have hb : ∀ o, Below w.heap.size w (w.alloc o) := fun o => (Below.refl _ _).alloc (Nat.le_refl _) o
  have HB := Lib.hid hb
  have HP := Lib.hid hp
  clear hb hp
  go_enter Try.func13, Try.ntmps13
  go_wp2_with (go_at_call 16; refine (ndone_yes (HP.out.alloc _)).mono ?_; rintro e wx ⟨rfl, rfl⟩)
  refine bodyPost_ret (v := .tuple #[.agg #[.int .u8 0, .int .i64 0, .int .u64 0, .int .u64 0, .bool false], .bool true]) (by simp [results, Try.results13, go_sem]) rfl ⟨rfl, ?_⟩
  repeat (first | exact Below.refl _ _ | refine Below.alloc ?_ (by simp; try omega) _ | refine Below.setCell ?_ (by simp) _)
end Go.Proofs.Ytjehcgeodcpcaaa
