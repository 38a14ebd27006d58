/- THE WALKS of package gauges: Step, over what a step's function leaves; AN OPERATION IN PLAIN WORDS. -/
import Derived.Test.YtcocegneegjcpaaGf
namespace Go.Proofs.Ytcocegneegjcpaa
open Go Go.RowKit

theorem steppedG_end {w w2 wf : World} {bk bw bp : Nat} {T T' : Nat} {l l' : List Value} {o : Obj} (h : Words w bk bw [(T : Int)]) (hp : Row w bp 115 l) (hW : Words w2 bk bw [(T' : Int)]) (hr : Row w2 bp 115 l') (hP : Part [bw, bp] (w.alloc o) w2) (hE : Part [w.heap.size] w2 wf) :
    Words wf bk bw [(T' : Int)] ∧ Row wf bp 115 l' ∧ Part [bw, bp] w wf := by
  have h1 := h.head.lt
  have h2 := h.row.lt
  have h3 := hp.lt
  refine ⟨hW.part hE (by simp; omega) (by simp; omega), hr.part hE (by simp; omega), Part.trans (S' := [w.heap.size]) (Part.trans (S' := [bw, bp]) ((Part.refl [bw, bp] w).alloc _) hP (fun _ _ hm => hm)) hE (fun q hq hm => ?_)⟩
  simp at hm
  omega

set_option maxHeartbeats 1600000
set_option maxRecDepth 100000
theorem gstep_load_last {w : World} {bk bw bp T T' : Nat} {k : Int} {x saw put ans saw' put' ans' : Nat} {x0 x1 x2 x3 : Int} {x4 : Bool} (h : Words w bk bw [(T : Int)]) (hp : Row w bp 115 (pendG bk k x saw put (fnV 55) ans))
    (hf : ∀ w1, Words w1 bk bw [(T : Int)] → Row w1 bp 115 (pendG bk k x saw put (fnV 55) ans) → Calls Try.prog 55 #[.pointer (some ⟨bp, 0, none⟩)] w1 (SteppedG w1 bk bw bp T' (pendG bk k x saw' put' .nilFunc ans') (.agg #[.int .u8 x0, .int .i64 x1, .int .u64 x2, .int .u64 x3, .bool x4]))) :
    Calls Try.prog 14 #[.pointer (some ⟨bp, 0, none⟩)] w (SteppedG w bk bw bp T' (pendG bk k x saw' put' .nilFunc ans') (.tuple #[(.agg #[.int .u8 x0, .int .i64 x1, .int .u64 x2, .int .u64 x3, .bool x4]), .bool true])) := by
  obtain ⟨c0, c1, c2, c3, c4, c5, c6⟩ := pendG_cells hp
  unfold fnV at c5
  have hbp := hp.lt
  have hbw := h.row.lt
  have H := Lib.hid h
  have HP := Lib.hid hp
  have HF := Lib.hid hf
  have HM1 : Hid (w.heap.size ∉ [bw, bp]) := Lib.hid (by simp; omega)
  clear h hp hf
  go_enter Try.func14, Try.ntmps14
  go_wp2_with (first
    | (go_at_call 15; refine (gdone_no (HP.out.alloc _)).mono ?_; rintro e wx ⟨rfl, rfl⟩)
    | (go_at_call 55; refine (HF.out _ (H.out.alloc _) (HP.out.alloc _)).mono ?_; rintro e w2 ⟨rfl, hW2, hR2, hP2⟩; have HW2 := Lib.hid hW2; have HR2 := Lib.hid hR2; have HP2 := Lib.hid hP2; have hr0 : Row w2 w.heap.size 45 noDid := Row.part (Row.new w _ _) hP2 HM1.out; unfold noDid at hr0; obtain ⟨d0, d1, d2, d3, d4⟩ := hr0.five; have df := hr0.free; have dlt := hr0.lt; clear hr0 hW2 hR2 hP2))
  go_region_with (first
    | (go_at_call 15; (with_reducible refine (gdone_yes (HR2.out.alloc _).drew).mono ?_); rintro e wx ⟨rfl, rfl⟩))
  all_goals
    go_wp2_with fail
    refine bodyPost_ret (v := .tuple #[(.agg #[.int .u8 x0, .int .i64 x1, .int .u64 x2, .int .u64 x3, .bool x4]), .bool true]) (by simp [results, Try.results14, go_sem, d0, d1, d2, d3, d4, dlt]) rfl ⟨rfl, ?_⟩
    refine steppedG_end H.out HP.out HW2.out HR2.out HP2.out ?_
    repeat (first | (with_reducible exact Part.refl _ _) | (with_reducible refine Part.drew ?_) | (with_reducible refine Part.alloc ?_ _) | refine Part.set ?_ (by simp) _)
theorem gstep_load_more {w : World} {bk bw bp T T' : Nat} {k : Int} {x saw put ans saw' put' ans' : Nat} {x0 x1 x2 x3 : Int} {x4 : Bool} (h : Words w bk bw [(T : Int)]) (hp : Row w bp 115 (pendG bk k x saw put (fnV 55) ans))
    (hf : ∀ w1, Words w1 bk bw [(T : Int)] → Row w1 bp 115 (pendG bk k x saw put (fnV 55) ans) → Calls Try.prog 55 #[.pointer (some ⟨bp, 0, none⟩)] w1 (SteppedG w1 bk bw bp T' (pendG bk k x saw' put' (fnV 84) ans') (.agg #[.int .u8 x0, .int .i64 x1, .int .u64 x2, .int .u64 x3, .bool x4]))) :
    Calls Try.prog 14 #[.pointer (some ⟨bp, 0, none⟩)] w (SteppedG w bk bw bp T' (pendG bk k x saw' put' (fnV 84) ans') (.tuple #[(.agg #[.int .u8 x0, .int .i64 x1, .int .u64 x2, .int .u64 x3, .bool x4]), .bool false])) := by
  obtain ⟨c0, c1, c2, c3, c4, c5, c6⟩ := pendG_cells hp
  unfold fnV at c5
  have hbp := hp.lt
  have hbw := h.row.lt
  have H := Lib.hid h
  have HP := Lib.hid hp
  have HF := Lib.hid hf
  have HM1 : Hid (w.heap.size ∉ [bw, bp]) := Lib.hid (by simp; omega)
  clear h hp hf
  go_enter Try.func14, Try.ntmps14
  go_wp2_with (first
    | (go_at_call 15; refine (gdone_no (HP.out.alloc _)).mono ?_; rintro e wx ⟨rfl, rfl⟩)
    | (go_at_call 55; refine (HF.out _ (H.out.alloc _) (HP.out.alloc _)).mono ?_; rintro e w2 ⟨rfl, hW2, hR2, hP2⟩; have HW2 := Lib.hid hW2; have HR2 := Lib.hid hR2; have HP2 := Lib.hid hP2; have hr0 : Row w2 w.heap.size 45 noDid := Row.part (Row.new w _ _) hP2 HM1.out; unfold noDid at hr0; obtain ⟨d0, d1, d2, d3, d4⟩ := hr0.five; have df := hr0.free; have dlt := hr0.lt; clear hr0 hW2 hR2 hP2))
  go_region_with (first
    | (go_at_call 15; (with_reducible refine (gdone_no (HR2.out.alloc _).drew).mono ?_); rintro e wx ⟨rfl, rfl⟩))
  all_goals
    go_wp2_with fail
    refine bodyPost_ret (v := .tuple #[(.agg #[.int .u8 x0, .int .i64 x1, .int .u64 x2, .int .u64 x3, .bool x4]), .bool false]) (by simp [results, Try.results14, go_sem, d0, d1, d2, d3, d4, dlt]) rfl ⟨rfl, ?_⟩
    refine steppedG_end H.out HP.out HW2.out HR2.out HP2.out ?_
    repeat (first | (with_reducible exact Part.refl _ _) | (with_reducible refine Part.drew ?_) | (with_reducible refine Part.alloc ?_ _) | refine Part.set ?_ (by simp) _)
theorem gstep_store_last {w : World} {bk bw bp T T' : Nat} {k : Int} {x saw put ans saw' put' ans' : Nat} {x0 x1 x2 x3 : Int} {x4 : Bool} (h : Words w bk bw [(T : Int)]) (hp : Row w bp 115 (pendG bk k x saw put (fnV 56) ans))
    (hf : ∀ w1, Words w1 bk bw [(T : Int)] → Row w1 bp 115 (pendG bk k x saw put (fnV 56) ans) → Calls Try.prog 56 #[.pointer (some ⟨bp, 0, none⟩)] w1 (SteppedG w1 bk bw bp T' (pendG bk k x saw' put' .nilFunc ans') (.agg #[.int .u8 x0, .int .i64 x1, .int .u64 x2, .int .u64 x3, .bool x4]))) :
    Calls Try.prog 14 #[.pointer (some ⟨bp, 0, none⟩)] w (SteppedG w bk bw bp T' (pendG bk k x saw' put' .nilFunc ans') (.tuple #[(.agg #[.int .u8 x0, .int .i64 x1, .int .u64 x2, .int .u64 x3, .bool x4]), .bool true])) := by
  obtain ⟨c0, c1, c2, c3, c4, c5, c6⟩ := pendG_cells hp
  unfold fnV at c5
  have hbp := hp.lt
  have hbw := h.row.lt
  have H := Lib.hid h
  have HP := Lib.hid hp
  have HF := Lib.hid hf
  have HM1 : Hid (w.heap.size ∉ [bw, bp]) := Lib.hid (by simp; omega)
  clear h hp hf
  go_enter Try.func14, Try.ntmps14
  go_wp2_with (first
    | (go_at_call 15; refine (gdone_no (HP.out.alloc _)).mono ?_; rintro e wx ⟨rfl, rfl⟩)
    | (go_at_call 56; refine (HF.out _ (H.out.alloc _) (HP.out.alloc _)).mono ?_; rintro e w2 ⟨rfl, hW2, hR2, hP2⟩; have HW2 := Lib.hid hW2; have HR2 := Lib.hid hR2; have HP2 := Lib.hid hP2; have hr0 : Row w2 w.heap.size 45 noDid := Row.part (Row.new w _ _) hP2 HM1.out; unfold noDid at hr0; obtain ⟨d0, d1, d2, d3, d4⟩ := hr0.five; have df := hr0.free; have dlt := hr0.lt; clear hr0 hW2 hR2 hP2))
  go_region_with (first
    | (go_at_call 15; (with_reducible refine (gdone_yes (HR2.out.alloc _).drew).mono ?_); rintro e wx ⟨rfl, rfl⟩))
  all_goals
    go_wp2_with fail
    refine bodyPost_ret (v := .tuple #[(.agg #[.int .u8 x0, .int .i64 x1, .int .u64 x2, .int .u64 x3, .bool x4]), .bool true]) (by simp [results, Try.results14, go_sem, d0, d1, d2, d3, d4, dlt]) rfl ⟨rfl, ?_⟩
    refine steppedG_end H.out HP.out HW2.out HR2.out HP2.out ?_
    repeat (first | (with_reducible exact Part.refl _ _) | (with_reducible refine Part.drew ?_) | (with_reducible refine Part.alloc ?_ _) | refine Part.set ?_ (by simp) _)
theorem gstep_swap_last {w : World} {bk bw bp T T' : Nat} {k : Int} {x saw put ans saw' put' ans' : Nat} {x0 x1 x2 x3 : Int} {x4 : Bool} (h : Words w bk bw [(T : Int)]) (hp : Row w bp 115 (pendG bk k x saw put (fnV 84) ans))
    (hf : ∀ w1, Words w1 bk bw [(T : Int)] → Row w1 bp 115 (pendG bk k x saw put (fnV 84) ans) → Calls Try.prog 84 #[.pointer (some ⟨bp, 0, none⟩)] w1 (SteppedG w1 bk bw bp T' (pendG bk k x saw' put' .nilFunc ans') (.agg #[.int .u8 x0, .int .i64 x1, .int .u64 x2, .int .u64 x3, .bool x4]))) :
    Calls Try.prog 14 #[.pointer (some ⟨bp, 0, none⟩)] w (SteppedG w bk bw bp T' (pendG bk k x saw' put' .nilFunc ans') (.tuple #[(.agg #[.int .u8 x0, .int .i64 x1, .int .u64 x2, .int .u64 x3, .bool x4]), .bool true])) := by
  obtain ⟨c0, c1, c2, c3, c4, c5, c6⟩ := pendG_cells hp
  unfold fnV at c5
  have hbp := hp.lt
  have hbw := h.row.lt
  have H := Lib.hid h
  have HP := Lib.hid hp
  have HF := Lib.hid hf
  have HM1 : Hid (w.heap.size ∉ [bw, bp]) := Lib.hid (by simp; omega)
  clear h hp hf
  go_enter Try.func14, Try.ntmps14
  go_wp2_with (first
    | (go_at_call 15; refine (gdone_no (HP.out.alloc _)).mono ?_; rintro e wx ⟨rfl, rfl⟩)
    | (go_at_call 84; refine (HF.out _ (H.out.alloc _) (HP.out.alloc _)).mono ?_; rintro e w2 ⟨rfl, hW2, hR2, hP2⟩; have HW2 := Lib.hid hW2; have HR2 := Lib.hid hR2; have HP2 := Lib.hid hP2; have hr0 : Row w2 w.heap.size 45 noDid := Row.part (Row.new w _ _) hP2 HM1.out; unfold noDid at hr0; obtain ⟨d0, d1, d2, d3, d4⟩ := hr0.five; have df := hr0.free; have dlt := hr0.lt; clear hr0 hW2 hR2 hP2))
  go_region_with (first
    | (go_at_call 15; (with_reducible refine (gdone_yes (HR2.out.alloc _).drew).mono ?_); rintro e wx ⟨rfl, rfl⟩))
  all_goals
    go_wp2_with fail
    refine bodyPost_ret (v := .tuple #[(.agg #[.int .u8 x0, .int .i64 x1, .int .u64 x2, .int .u64 x3, .bool x4]), .bool true]) (by simp [results, Try.results14, go_sem, d0, d1, d2, d3, d4, dlt]) rfl ⟨rfl, ?_⟩
    refine steppedG_end H.out HP.out HW2.out HR2.out HP2.out ?_
    repeat (first | (with_reducible exact Part.refl _ _) | (with_reducible refine Part.drew ?_) | (with_reducible refine Part.alloc ?_ _) | refine Part.set ?_ (by simp) _)
theorem gstep_swap_more {w : World} {bk bw bp T T' : Nat} {k : Int} {x saw put ans saw' put' ans' : Nat} {x0 x1 x2 x3 : Int} {x4 : Bool} (h : Words w bk bw [(T : Int)]) (hp : Row w bp 115 (pendG bk k x saw put (fnV 84) ans))
    (hf : ∀ w1, Words w1 bk bw [(T : Int)] → Row w1 bp 115 (pendG bk k x saw put (fnV 84) ans) → Calls Try.prog 84 #[.pointer (some ⟨bp, 0, none⟩)] w1 (SteppedG w1 bk bw bp T' (pendG bk k x saw' put' (fnV 55) ans') (.agg #[.int .u8 x0, .int .i64 x1, .int .u64 x2, .int .u64 x3, .bool x4]))) :
    Calls Try.prog 14 #[.pointer (some ⟨bp, 0, none⟩)] w (SteppedG w bk bw bp T' (pendG bk k x saw' put' (fnV 55) ans') (.tuple #[(.agg #[.int .u8 x0, .int .i64 x1, .int .u64 x2, .int .u64 x3, .bool x4]), .bool false])) := by
  obtain ⟨c0, c1, c2, c3, c4, c5, c6⟩ := pendG_cells hp
  unfold fnV at c5
  have hbp := hp.lt
  have hbw := h.row.lt
  have H := Lib.hid h
  have HP := Lib.hid hp
  have HF := Lib.hid hf
  have HM1 : Hid (w.heap.size ∉ [bw, bp]) := Lib.hid (by simp; omega)
  clear h hp hf
  go_enter Try.func14, Try.ntmps14
  go_wp2_with (first
    | (go_at_call 15; refine (gdone_no (HP.out.alloc _)).mono ?_; rintro e wx ⟨rfl, rfl⟩)
    | (go_at_call 84; refine (HF.out _ (H.out.alloc _) (HP.out.alloc _)).mono ?_; rintro e w2 ⟨rfl, hW2, hR2, hP2⟩; have HW2 := Lib.hid hW2; have HR2 := Lib.hid hR2; have HP2 := Lib.hid hP2; have hr0 : Row w2 w.heap.size 45 noDid := Row.part (Row.new w _ _) hP2 HM1.out; unfold noDid at hr0; obtain ⟨d0, d1, d2, d3, d4⟩ := hr0.five; have df := hr0.free; have dlt := hr0.lt; clear hr0 hW2 hR2 hP2))
  go_region_with (first
    | (go_at_call 15; (with_reducible refine (gdone_no (HR2.out.alloc _).drew).mono ?_); rintro e wx ⟨rfl, rfl⟩))
  all_goals
    go_wp2_with fail
    refine bodyPost_ret (v := .tuple #[(.agg #[.int .u8 x0, .int .i64 x1, .int .u64 x2, .int .u64 x3, .bool x4]), .bool false]) (by simp [results, Try.results14, go_sem, d0, d1, d2, d3, d4, dlt]) rfl ⟨rfl, ?_⟩
    refine steppedG_end H.out HP.out HW2.out HR2.out HP2.out ?_
    repeat (first | (with_reducible exact Part.refl _ _) | (with_reducible refine Part.drew ?_) | (with_reducible refine Part.alloc ?_ _) | refine Part.set ?_ (by simp) _)
theorem gstep_over {w : World} {bp bk : Nat} {k : Int} {x saw put ans : Nat} (h : Row w bp 115 (pendG bk k x saw put .nilFunc ans)) :
    Calls Try.prog 14 #[.pointer (some ⟨bp, 0, none⟩)] w fun e w' => e = .returned (.tuple #[.agg #[.int .u8 0, .int .i64 0, .int .u64 0, .int .u64 0, .bool false], .bool true]) ∧ Below w.heap.size w w' := by
  go_enter Try.func14, Try.ntmps14
  go_wp2_with (go_at_call 15; refine (gdone_yes (h.alloc _)).mono ?_; rintro e wx ⟨rfl, rfl⟩)
  refine bodyPost_ret (v := .tuple #[.agg #[.int .u8 0, .int .i64 0, .int .u64 0, .int .u64 0, .bool false], .bool true]) (by simp [results, Try.results14, go_sem]) rfl ⟨rfl, ?_⟩
  repeat (first | exact Below.refl _ _ | refine Below.alloc ?_ (by simp; try omega) _ | refine Below.setCell ?_ (by simp) _)

/-- an operation: its kind and number; ph 0: its first action comes, 1: it has loaded, and puts; 2: it has ended -/
structure OpG where
  k : Int
  x : Nat
  ph : Nat
  saw : Nat
  put : Nat
  ans : Nat
def newG (k : Int) (x : Nat) : OpG := ⟨k, x, 0, 0, 0, 0⟩
def stepG (T : Nat) (o : OpG) : OpG :=
  if o.ph = 0 then
    if o.k = 2 then { o with ph := 2, ans := GM.bitsOf o.x }
    else match putG o.k o.x T with
      | some p => { o with ph := 1, saw := T, put := p }
      | none => { o with ph := 2, ans := T }
  else if o.ph = 1 then (if T = o.saw then { o with ph := 2, ans := o.put } else { o with ph := 0 })
  else o
def wordG (T : Nat) (o : OpG) : Nat :=
  if o.ph = 0 then (if o.k = 2 then GM.bitsOf o.x else T) else if o.ph = 1 then (if T = o.saw then o.put else T) else T
def didG (T : Nat) (o : OpG) : Value :=
  if o.ph = 0 then (if o.k = 2 then .agg #[.int .u8 2, .int .i64 0, .int .u64 (T : Int), .int .u64 ((GM.bitsOf o.x : Nat) : Int), .bool true] else .agg #[.int .u8 1, .int .i64 0, .int .u64 (T : Int), .int .u64 (T : Int), .bool true])
  else if o.ph = 1 then (if T = o.saw then .agg #[.int .u8 5, .int .i64 0, .int .u64 (T : Int), .int .u64 (o.put : Int), .bool true] else .agg #[.int .u8 5, .int .i64 0, .int .u64 (T : Int), .int .u64 (T : Int), .bool false])
  else .agg #[.int .u8 0, .int .i64 0, .int .u64 0, .int .u64 0, .bool false]

/-- an operation under way that is well -/
structure OkG (o : OpG) : Prop where
  right : grightB o.k o.x = true
  x : B64 o.x
  ph : o.ph ≤ 2
  fresh : o.ph < 2 → o.ans = 0
  loaded : o.ph = 1 → putG o.k o.x o.saw = some o.put ∧ B64 o.put ∧ B64 o.saw
  ans : B64 o.ans
theorem addB_lt (v x : Nat) : B64 (addB v x) := by
  unfold addB
  cases h : Ieee.double.add v x with
  | some r => exact GM.bits_lt (add_lt h)
  | none => unfold B64; simp
theorem putG_lt {k : Int} {x v p : Nat} (lx : B64 x) (h : putG k x v = some p) : B64 p := by
  unfold putG at h
  split at h
  · cases h; exact addB_lt v x
  · split at h
    · split at h
      · cases h; exact GM.bits_lt lx
      · cases h
    · split at h
      · split at h
        · cases h; exact GM.bits_lt lx
        · cases h
      · cases h
theorem putG_ne2 {x v : Nat} : putG 2 x v = none := by simp [putG]
section
variable {T : Nat} {o : OpG}
theorem OkG.new {k : Int} {x : Nat} (h : grightB k x = true) (lx : B64 x) : OkG (newG k x) := ⟨h, lx, by simp [newG], fun _ => rfl, by simp [newG], by simp [newG, B64]⟩
theorem OkG.step (h : OkG o) (hT : B64 T) : OkG (stepG T o) := by
  obtain ⟨h1, h2, h3, h4, h5, h6⟩ := h
  unfold stepG
  split
  · split
    · exact ⟨h1, h2, by simp, by simp, by simp, GM.bits_lt h2⟩
    · split
      · rename_i p hp
        exact ⟨h1, h2, by simp, fun _ => h4 (by omega), fun _ => ⟨hp, putG_lt h2 hp, hT⟩, h6⟩
      · exact ⟨h1, h2, by simp, by simp, by simp, hT⟩
  · split
    · rename_i a b
      split
      · exact ⟨h1, h2, by simp, by simp, by simp, (h5 b).2.1⟩
      · exact ⟨h1, h2, by simp, fun _ => h4 (by omega), by simp, h6⟩
    · exact ⟨h1, h2, h3, h4, h5, h6⟩
theorem wordG_lt (h : OkG o) (hT : B64 T) : B64 (wordG T o) := by
  unfold wordG
  split
  · split
    · exact GM.bits_lt h.x
    · exact hT
  · split
    · rename_i a b
      split
      · exact (h.loaded b).2.1
      · exact hT
    · exact hT
/-- the cells of an operation -/
def nxG (o : OpG) : Value := if o.ph = 0 then fnV (firstG o.k) else if o.ph = 1 then fnV 84 else .nilFunc
def opG (bk : Nat) (o : OpG) : List Value := pendG bk o.k o.x o.saw o.put (nxG o) o.ans
end
/-- what a step leaves -/
def StepsG (w : World) (bk bw bp : Nat) (T : Nat) (o : OpG) (v : Value) (e : Ending) (w' : World) : Prop := e = .returned v ∧ Words w' bk bw [(T : Int)] ∧ Row w' bp 115 (opG bk o) ∧ Part [bw, bp] w w'
theorem SteppedG.steps {w w' : World} {bk bw bp T T' : Nat} {o : OpG} {l : List Value} {v v' : Value} {e : Ending} (hs : SteppedG w bk bw bp T l v e w') (hl : l = opG bk o) (hv : v = v') (hT : T = T') : StepsG w bk bw bp T' o v' e w' := by
  subst hl
  subst hv
  subst hT
  exact hs
theorem gright_split {k : Int} {x : Nat} (h : grightB k x = true) : (k = 1 ∧ (x = 0 ∨ x = 9223372036854775808)) ∨ k = 2 ∨ k = 3 ∨ k = 4 ∨ k = 5 := by
  simp [grightB] at h
  omega
theorem gstart_op {w : World} {bg bk : Nat} {k : Int} {x : Nat} (hg : Row w bg 111 [.pointer (some ⟨bk, 0, none⟩)]) (lx : B64 x) (h : grightB k x = true) :
    Calls Try.prog 11 #[.pointer (some ⟨bg, 0, none⟩), .agg #[.int .u8 k, .float .f64 x]] w (BegunG w (opG bk (newG k x))) := by
  rcases gright_split h with ⟨rfl, hx⟩ | rfl | rfl | rfl | rfl
  · exact gstart_get hg hx lx
  · exact gstart_set hg
  · exact gstart_add hg
  · exact gstart_max hg
  · exact gstart_min hg
theorem gdone_op {w : World} {bp bk : Nat} {o : OpG} (h : Row w bp 115 (opG bk o)) (h2 : o.ph ≤ 2) :
    Calls Try.prog 15 #[.pointer (some ⟨bp, 0, none⟩)] w fun e w' => e = .returned (.bool (decide (o.ph = 2))) ∧ w = w' := by
  obtain ⟨k, x, ph, saw, put, ans⟩ := o
  dsimp only at h2 ⊢
  match ph, h2 with
  | 0, _ => exact gdone_no h
  | 1, _ => exact gdone_no h
  | 2, _ => exact gdone_yes h
theorem ganswer_op {w : World} {bp bk : Nat} {o : OpG} (h : Row w bp 115 (opG bk o)) :
    Calls Try.prog 17 #[.pointer (some ⟨bp, 0, none⟩)] w fun e w' => e = .returned (.float .f64 o.ans) ∧ w = w' := ganswer_any h
theorem gstep_op {w : World} {bk bw bp T : Nat} {o : OpG} (h : Words w bk bw [(T : Int)]) (hT : B64 T) (hp : Row w bp 115 (opG bk o)) (ho : OkG o) :
    Calls Try.prog 14 #[.pointer (some ⟨bp, 0, none⟩)] w (StepsG w bk bw bp (wordG T o) (stepG T o) (.tuple #[didG T o, .bool (decide ((stepG T o).ph = 2))])) := by
  obtain ⟨hr, hx, h2, hf, hl, ha⟩ := ho
  obtain ⟨k, x, ph, saw, put, ans⟩ := o
  dsimp only at hr hx h2 hf hl ha
  match ph, h2 with
  | 0, _ =>
    obtain rfl := hf (by omega)
    by_cases k2 : k = 2
    · subst k2
      have hp1 : Row w bp 115 (pendG bk 2 x saw put (fnV 56) 0) := hp
      exact (gstep_store_last h hp1 fun w1 hb hr => fstore hb hr hx).mono fun e w' hs => hs.steps (by simp [stepG, opG, nxG]) (by simp [stepG, didG]) (by simp [wordG])
    · have hp1 : Row w bp 115 (pendG bk k x saw put (fnV 55) 0) := by
        have := hp
        simp only [opG, nxG, firstG, if_neg k2, if_true] at this
        exact this
      cases hq : putG k x T with
      | some p => exact (gstep_load_more h hp1 fun w1 hb hr => fload_go hb hr hT hx hq).mono fun e w' hs => hs.steps (by simp [stepG, k2, hq, opG, nxG]) (by simp [stepG, k2, hq, didG]) (by simp [wordG, k2])
      | none => exact (gstep_load_last h hp1 fun w1 hb hr => fload_end hb hr hT hx hq).mono fun e w' hs => hs.steps (by simp [stepG, k2, hq, opG, nxG]) (by simp [stepG, k2, hq, didG]) (by simp [wordG, k2])
  | 1, _ =>
    obtain rfl := hf (by omega)
    obtain ⟨l1, l2, l3⟩ := hl rfl
    have k2 : ¬ k = 2 := by rintro rfl; rw [putG_ne2] at l1; cases l1
    have hp1 : Row w bp 115 (pendG bk k x saw put (fnV 84) 0) := hp
    by_cases e : T = saw
    · subst e
      exact (gstep_swap_last h hp1 fun w1 hb hr => fswap_hit hb hr l2).mono fun e w' hs => hs.steps (by simp [stepG, opG, nxG]) (by simp [stepG, didG]) (by simp [wordG])
    · exact (gstep_swap_more h hp1 fun w1 hb hr => fswap_miss hb hr e).mono fun e' w' hs => hs.steps (by simp [stepG, e, opG, nxG, firstG, k2]) (by simp [stepG, e, didG]) (by simp [wordG, e])
  | 2, _ =>
    exact (gstep_over hp).mono fun e w' ⟨he, hb⟩ => ⟨he, h.part (Part.of_below hb (Nat.le_refl _) []) (by simp) (by simp), hp.below hb hp.lt, Part.of_below hb (Nat.le_refl _) _⟩
end Go.Proofs.Ytcocegneegjcpaa
