/- THE WALKS of package snap: Step, over what a step's function leaves. -/
import Derived.Test.YtdadgppbpomdoaaPi
namespace Go.Proofs.Ytdadgppbpomdoaa
open Go Go.RowKit

/-- what a step's function leaves, in the world in which Step calls it -/
def NextTo (w : World) (bp : Nat) (x0 x1 x2 x3 : Int) (x4 : Bool) (nx : Value) (G : World → Prop) (e : Ending) (w2 : World) : Prop :=
  e = .returned (.agg #[.int .u8 x0, .int .i64 x1, .int .u64 x2, .int .u64 x3, .bool x4]) ∧ (∃ bk k r v t saw va vw c vr cl vc, Row w2 bp 82 (pendP bk k r v t nx saw va vw c vr cl vc)) ∧ Row w2 w.heap.size 48 noDid ∧ G w2
/-- what Step leaves then -/
def StepTo (w : World) (x0 x1 x2 x3 : Int) (x4 : Bool) (b : Bool) (G : World → Prop) (e : Ending) (w' : World) : Prop :=
  ∃ w2, e = .returned (.tuple #[.agg #[.int .u8 x0, .int .i64 x1, .int .u64 x2, .int .u64 x3, .bool x4], .bool b]) ∧ G w2 ∧ Part [w.heap.size] w2 w'
set_option maxHeartbeats 1600000
set_option maxRecDepth 100000
theorem pstep_over {w : World} {bp bk : Nat} {k r v t saw c vc : Int} {va vw vr : Value} {cl : Bool} (hp : Row w bp 82 (pendP bk k r v t .nilFunc saw va vw c vr cl vc)) :
    Calls Try.prog 14 #[.pointer (some ⟨bp, 0, none⟩)] w fun e w' => e = .returned (.tuple #[noDidV, .bool true]) ∧ Below w.heap.size w w' := by
  have HP := Lib.hid hp
  clear hp
  go_enter Try.func14, Try.ntmps14
  go_wp2_with (go_at_call 16; refine (pdone_yes (HP.out.alloc _)).mono ?_; rintro e wx ⟨rfl, rfl⟩)
  refine bodyPost_ret (v := .tuple #[noDidV, .bool true]) (by simp [results, Try.results14, go_sem, noDidV]) rfl ⟨rfl, ?_⟩
  repeat (first | exact Below.refl _ _ | refine Below.alloc ?_ (by simp; try omega) _ | refine Below.setCell ?_ (by simp) _)
theorem pstep_load_false {w : World} {bp bk : Nat} {k r v t saw c vc x0 x1 x2 x3 : Int} {va vw vr : Value} {cl x4 : Bool} {G : World → Prop} {nf : FuncId} (hp : Row w bp 82 (pendP bk k r v t (fnV 30) saw va vw c vr cl vc))
    (hf : Calls Try.prog 30 #[.pointer (some ⟨bp, 0, none⟩)] (w.alloc (.cells noDid.toArray 48)) (NextTo w bp x0 x1 x2 x3 x4 (fnV nf) G)) :
    Calls Try.prog 14 #[.pointer (some ⟨bp, 0, none⟩)] w (StepTo w x0 x1 x2 x3 x4 false G) := by
  have c5 : w.cell? ⟨bp, 5, none⟩ = some (.func (.func 30) #[] #[]) := hp.cell 5
  have hbp := hp.lt
  have HP := Lib.hid hp
  have hf' : Calls Try.prog 30 #[.pointer (some ⟨bp, 0, none⟩)] (w.alloc (.cells #[.int .u8 0, .int .i64 0, .int .u64 0, .int .u64 0, .bool false] 48)) (NextTo w bp x0 x1 x2 x3 x4 (fnV nf) G) := hf
  have HF := Lib.hid hf'
  clear hp hf hf'
  go_enter Try.func14, Try.ntmps14
  go_wp2_with (first
    | (go_at_call 16; refine (pdone_no (HP.out.alloc _)).mono ?_; rintro e wx ⟨rfl, rfl⟩)
    | (go_at_call 30; (with_reducible refine HF.out.mono ?_); rintro e w2 ⟨rfl, ⟨bk', k', r', v', t', saw', va', vw', c', vr', cl', vc', hR⟩, hr0, hG⟩; have HR2 := Lib.hid hR; have HG := Lib.hid hG; unfold noDid at hr0; obtain ⟨d0, d1, d2, d3, d4⟩ := hr0.five; have df := hr0.free; have dlt := hr0.lt; clear hr0 hR hG))
  go_region_with (go_at_call 16; (with_reducible refine (pdone_no (HR2.out.alloc _).drew).mono ?_); rintro e wx ⟨rfl, rfl⟩)
  all_goals
    go_wp2_with fail
    refine bodyPost_ret (v := .tuple #[.agg #[.int .u8 x0, .int .i64 x1, .int .u64 x2, .int .u64 x3, .bool x4], .bool false]) (by simp [results, Try.results14, go_sem, d0, d1, d2, d3, d4, dlt]) rfl ⟨w2, rfl, HG.out, ?_⟩
    repeat (first | (with_reducible exact Part.refl _ _) | (with_reducible refine Part.drew ?_) | (with_reducible refine Part.alloc ?_ _) | refine Part.set ?_ (by simp) _)
theorem pstep_swap_false {w : World} {bp bk : Nat} {k r v t saw c vc x0 x1 x2 x3 : Int} {va vw vr : Value} {cl x4 : Bool} {G : World → Prop} {nf : FuncId} (hp : Row w bp 82 (pendP bk k r v t (fnV 46) saw va vw c vr cl vc))
    (hf : Calls Try.prog 46 #[.pointer (some ⟨bp, 0, none⟩)] (w.alloc (.cells noDid.toArray 48)) (NextTo w bp x0 x1 x2 x3 x4 (fnV nf) G)) :
    Calls Try.prog 14 #[.pointer (some ⟨bp, 0, none⟩)] w (StepTo w x0 x1 x2 x3 x4 false G) := by
  have c5 : w.cell? ⟨bp, 5, none⟩ = some (.func (.func 46) #[] #[]) := hp.cell 5
  have hbp := hp.lt
  have HP := Lib.hid hp
  have hf' : Calls Try.prog 46 #[.pointer (some ⟨bp, 0, none⟩)] (w.alloc (.cells #[.int .u8 0, .int .i64 0, .int .u64 0, .int .u64 0, .bool false] 48)) (NextTo w bp x0 x1 x2 x3 x4 (fnV nf) G) := hf
  have HF := Lib.hid hf'
  clear hp hf hf'
  go_enter Try.func14, Try.ntmps14
  go_wp2_with (first
    | (go_at_call 16; refine (pdone_no (HP.out.alloc _)).mono ?_; rintro e wx ⟨rfl, rfl⟩)
    | (go_at_call 46; (with_reducible refine HF.out.mono ?_); rintro e w2 ⟨rfl, ⟨bk', k', r', v', t', saw', va', vw', c', vr', cl', vc', hR⟩, hr0, hG⟩; have HR2 := Lib.hid hR; have HG := Lib.hid hG; unfold noDid at hr0; obtain ⟨d0, d1, d2, d3, d4⟩ := hr0.five; have df := hr0.free; have dlt := hr0.lt; clear hr0 hR hG))
  go_region_with (go_at_call 16; (with_reducible refine (pdone_no (HR2.out.alloc _).drew).mono ?_); rintro e wx ⟨rfl, rfl⟩)
  all_goals
    go_wp2_with fail
    refine bodyPost_ret (v := .tuple #[.agg #[.int .u8 x0, .int .i64 x1, .int .u64 x2, .int .u64 x3, .bool x4], .bool false]) (by simp [results, Try.results14, go_sem, d0, d1, d2, d3, d4, dlt]) rfl ⟨w2, rfl, HG.out, ?_⟩
    repeat (first | (with_reducible exact Part.refl _ _) | (with_reducible refine Part.drew ?_) | (with_reducible refine Part.alloc ?_ _) | refine Part.set ?_ (by simp) _)
theorem pstep_swap_true {w : World} {bp bk : Nat} {k r v t saw c vc x0 x1 x2 x3 : Int} {va vw vr : Value} {cl x4 : Bool} {G : World → Prop} (hp : Row w bp 82 (pendP bk k r v t (fnV 46) saw va vw c vr cl vc))
    (hf : Calls Try.prog 46 #[.pointer (some ⟨bp, 0, none⟩)] (w.alloc (.cells noDid.toArray 48)) (NextTo w bp x0 x1 x2 x3 x4 .nilFunc G)) :
    Calls Try.prog 14 #[.pointer (some ⟨bp, 0, none⟩)] w (StepTo w x0 x1 x2 x3 x4 true G) := by
  have c5 : w.cell? ⟨bp, 5, none⟩ = some (.func (.func 46) #[] #[]) := hp.cell 5
  have hbp := hp.lt
  have HP := Lib.hid hp
  have hf' : Calls Try.prog 46 #[.pointer (some ⟨bp, 0, none⟩)] (w.alloc (.cells #[.int .u8 0, .int .i64 0, .int .u64 0, .int .u64 0, .bool false] 48)) (NextTo w bp x0 x1 x2 x3 x4 .nilFunc G) := hf
  have HF := Lib.hid hf'
  clear hp hf hf'
  go_enter Try.func14, Try.ntmps14
  go_wp2_with (first
    | (go_at_call 16; refine (pdone_no (HP.out.alloc _)).mono ?_; rintro e wx ⟨rfl, rfl⟩)
    | (go_at_call 46; (with_reducible refine HF.out.mono ?_); rintro e w2 ⟨rfl, ⟨bk', k', r', v', t', saw', va', vw', c', vr', cl', vc', hR⟩, hr0, hG⟩; have HR2 := Lib.hid hR; have HG := Lib.hid hG; unfold noDid at hr0; obtain ⟨d0, d1, d2, d3, d4⟩ := hr0.five; have df := hr0.free; have dlt := hr0.lt; clear hr0 hR hG))
  go_region_with (go_at_call 16; (with_reducible refine (pdone_yes (HR2.out.alloc _).drew).mono ?_); rintro e wx ⟨rfl, rfl⟩)
  all_goals
    go_wp2_with fail
    refine bodyPost_ret (v := .tuple #[.agg #[.int .u8 x0, .int .i64 x1, .int .u64 x2, .int .u64 x3, .bool x4], .bool true]) (by simp [results, Try.results14, go_sem, d0, d1, d2, d3, d4, dlt]) rfl ⟨w2, rfl, HG.out, ?_⟩
    repeat (first | (with_reducible exact Part.refl _ _) | (with_reducible refine Part.drew ?_) | (with_reducible refine Part.alloc ?_ _) | refine Part.set ?_ (by simp) _)
theorem pstep_get_true {w : World} {bp bk : Nat} {k r v t saw c vc x0 x1 x2 x3 : Int} {va vw vr : Value} {cl x4 : Bool} {G : World → Prop} (hp : Row w bp 82 (pendP bk k r v t (fnV 31) saw va vw c vr cl vc))
    (hf : Calls Try.prog 31 #[.pointer (some ⟨bp, 0, none⟩)] (w.alloc (.cells noDid.toArray 48)) (NextTo w bp x0 x1 x2 x3 x4 .nilFunc G)) :
    Calls Try.prog 14 #[.pointer (some ⟨bp, 0, none⟩)] w (StepTo w x0 x1 x2 x3 x4 true G) := by
  have c5 : w.cell? ⟨bp, 5, none⟩ = some (.func (.func 31) #[] #[]) := hp.cell 5
  have hbp := hp.lt
  have HP := Lib.hid hp
  have hf' : Calls Try.prog 31 #[.pointer (some ⟨bp, 0, none⟩)] (w.alloc (.cells #[.int .u8 0, .int .i64 0, .int .u64 0, .int .u64 0, .bool false] 48)) (NextTo w bp x0 x1 x2 x3 x4 .nilFunc G) := hf
  have HF := Lib.hid hf'
  clear hp hf hf'
  go_enter Try.func14, Try.ntmps14
  go_wp2_with (first
    | (go_at_call 16; refine (pdone_no (HP.out.alloc _)).mono ?_; rintro e wx ⟨rfl, rfl⟩)
    | (go_at_call 31; (with_reducible refine HF.out.mono ?_); rintro e w2 ⟨rfl, ⟨bk', k', r', v', t', saw', va', vw', c', vr', cl', vc', hR⟩, hr0, hG⟩; have HR2 := Lib.hid hR; have HG := Lib.hid hG; unfold noDid at hr0; obtain ⟨d0, d1, d2, d3, d4⟩ := hr0.five; have df := hr0.free; have dlt := hr0.lt; clear hr0 hR hG))
  go_region_with (go_at_call 16; (with_reducible refine (pdone_yes (HR2.out.alloc _).drew).mono ?_); rintro e wx ⟨rfl, rfl⟩)
  all_goals
    go_wp2_with fail
    refine bodyPost_ret (v := .tuple #[.agg #[.int .u8 x0, .int .i64 x1, .int .u64 x2, .int .u64 x3, .bool x4], .bool true]) (by simp [results, Try.results14, go_sem, d0, d1, d2, d3, d4, dlt]) rfl ⟨w2, rfl, HG.out, ?_⟩
    repeat (first | (with_reducible exact Part.refl _ _) | (with_reducible refine Part.drew ?_) | (with_reducible refine Part.alloc ?_ _) | refine Part.set ?_ (by simp) _)
theorem pstep_collect_false {w : World} {bp bk : Nat} {k r v t saw c vc x0 x1 x2 x3 : Int} {va vw vr : Value} {cl x4 : Bool} {G : World → Prop} {nf : FuncId} (hp : Row w bp 82 (pendP bk k r v t (fnV 32) saw va vw c vr cl vc))
    (hf : Calls Try.prog 32 #[.pointer (some ⟨bp, 0, none⟩)] (w.alloc (.cells noDid.toArray 48)) (NextTo w bp x0 x1 x2 x3 x4 (fnV nf) G)) :
    Calls Try.prog 14 #[.pointer (some ⟨bp, 0, none⟩)] w (StepTo w x0 x1 x2 x3 x4 false G) := by
  have c5 : w.cell? ⟨bp, 5, none⟩ = some (.func (.func 32) #[] #[]) := hp.cell 5
  have hbp := hp.lt
  have HP := Lib.hid hp
  have hf' : Calls Try.prog 32 #[.pointer (some ⟨bp, 0, none⟩)] (w.alloc (.cells #[.int .u8 0, .int .i64 0, .int .u64 0, .int .u64 0, .bool false] 48)) (NextTo w bp x0 x1 x2 x3 x4 (fnV nf) G) := hf
  have HF := Lib.hid hf'
  clear hp hf hf'
  go_enter Try.func14, Try.ntmps14
  go_wp2_with (first
    | (go_at_call 16; refine (pdone_no (HP.out.alloc _)).mono ?_; rintro e wx ⟨rfl, rfl⟩)
    | (go_at_call 32; (with_reducible refine HF.out.mono ?_); rintro e w2 ⟨rfl, ⟨bk', k', r', v', t', saw', va', vw', c', vr', cl', vc', hR⟩, hr0, hG⟩; have HR2 := Lib.hid hR; have HG := Lib.hid hG; unfold noDid at hr0; obtain ⟨d0, d1, d2, d3, d4⟩ := hr0.five; have df := hr0.free; have dlt := hr0.lt; clear hr0 hR hG))
  go_region_with (go_at_call 16; (with_reducible refine (pdone_no (HR2.out.alloc _).drew).mono ?_); rintro e wx ⟨rfl, rfl⟩)
  all_goals
    go_wp2_with fail
    refine bodyPost_ret (v := .tuple #[.agg #[.int .u8 x0, .int .i64 x1, .int .u64 x2, .int .u64 x3, .bool x4], .bool false]) (by simp [results, Try.results14, go_sem, d0, d1, d2, d3, d4, dlt]) rfl ⟨w2, rfl, HG.out, ?_⟩
    repeat (first | (with_reducible exact Part.refl _ _) | (with_reducible refine Part.drew ?_) | (with_reducible refine Part.alloc ?_ _) | refine Part.set ?_ (by simp) _)
theorem pstep_collect_true {w : World} {bp bk : Nat} {k r v t saw c vc x0 x1 x2 x3 : Int} {va vw vr : Value} {cl x4 : Bool} {G : World → Prop} (hp : Row w bp 82 (pendP bk k r v t (fnV 32) saw va vw c vr cl vc))
    (hf : Calls Try.prog 32 #[.pointer (some ⟨bp, 0, none⟩)] (w.alloc (.cells noDid.toArray 48)) (NextTo w bp x0 x1 x2 x3 x4 .nilFunc G)) :
    Calls Try.prog 14 #[.pointer (some ⟨bp, 0, none⟩)] w (StepTo w x0 x1 x2 x3 x4 true G) := by
  have c5 : w.cell? ⟨bp, 5, none⟩ = some (.func (.func 32) #[] #[]) := hp.cell 5
  have hbp := hp.lt
  have HP := Lib.hid hp
  have hf' : Calls Try.prog 32 #[.pointer (some ⟨bp, 0, none⟩)] (w.alloc (.cells #[.int .u8 0, .int .i64 0, .int .u64 0, .int .u64 0, .bool false] 48)) (NextTo w bp x0 x1 x2 x3 x4 .nilFunc G) := hf
  have HF := Lib.hid hf'
  clear hp hf hf'
  go_enter Try.func14, Try.ntmps14
  go_wp2_with (first
    | (go_at_call 16; refine (pdone_no (HP.out.alloc _)).mono ?_; rintro e wx ⟨rfl, rfl⟩)
    | (go_at_call 32; (with_reducible refine HF.out.mono ?_); rintro e w2 ⟨rfl, ⟨bk', k', r', v', t', saw', va', vw', c', vr', cl', vc', hR⟩, hr0, hG⟩; have HR2 := Lib.hid hR; have HG := Lib.hid hG; unfold noDid at hr0; obtain ⟨d0, d1, d2, d3, d4⟩ := hr0.five; have df := hr0.free; have dlt := hr0.lt; clear hr0 hR hG))
  go_region_with (go_at_call 16; (with_reducible refine (pdone_yes (HR2.out.alloc _).drew).mono ?_); rintro e wx ⟨rfl, rfl⟩)
  all_goals
    go_wp2_with fail
    refine bodyPost_ret (v := .tuple #[.agg #[.int .u8 x0, .int .i64 x1, .int .u64 x2, .int .u64 x3, .bool x4], .bool true]) (by simp [results, Try.results14, go_sem, d0, d1, d2, d3, d4, dlt]) rfl ⟨w2, rfl, HG.out, ?_⟩
    repeat (first | (with_reducible exact Part.refl _ _) | (with_reducible refine Part.drew ?_) | (with_reducible refine Part.alloc ?_ _) | refine Part.set ?_ (by simp) _)
end Go.Proofs.Ytdadgppbpomdoaa
