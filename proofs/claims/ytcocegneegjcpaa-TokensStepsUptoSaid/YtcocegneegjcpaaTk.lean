/- THE WALKS of package tokens: do, Take, Peek. -/
import Derived.Test.YtcocegneegjcpaaTj
namespace Go.Proofs.Ytcocegneegjcpaa
open Go Go.RowKit

def stopV (ev bu T t n : Int) : Int := if bu < n then -1 else max T t + n * ev - (t + bu * ev)
/-- the word behind a whole Take; its answer -/
def takeB (ev bu T t n : Int) : Bool := decide (max T t + n * ev ≤ t + bu * ev)
def takeW (ev bu T t n : Int) : Int := if takeB ev bu T t n then max T t + n * ev else T
def takeV (ev bu T t n : Int) : Value := .agg #[.bool (takeB ev bu T t n), .int .i64 (if takeB ev bu T t n then 0 else stopV ev bu T t n), .int .i64 0]
def zeroV : Value := .agg #[.bool false, .int .i64 0, .int .i64 0]

/-- what a whole operation leaves -/
def WholeT (w : World) (bt bk bw : Nat) (ev bu T : Int) (v : Value) (e : Ending) (w' : World) : Prop := e = .returned v ∧ Buck w' bt bk bw ev bu T ∧ Part [bw] w w'

theorem whole_end {w w1 w2 w3 wf : World} {bt bk bw bp : Nat} {ev bu T : Int} (hb : Below w.heap.size w w1) (hbp : w.heap.size ≤ bp) (hP : Part [bw, bp] w1 w2) (hB : Buck w2 bt bk bw ev bu T) (hb3 : Below w2.heap.size w2 w3) {lo : Nat} (hlo : w.heap.size ≤ lo) (hE : Part [lo] w3 wf)
    (h1 : bt < w.heap.size) (h2 : bk < w.heap.size) (h3 : bw < w.heap.size) : Buck wf bt bk bw ev bu T ∧ Part [bw] w wf := by
  refine ⟨(hB.on hb3).part hE (by simp; omega) (by simp; omega) (by simp; omega), ?_⟩
  refine Part.trans (S' := [lo]) (Part.then_ (Part.trans (S' := [bw, bp]) (Part.of_below hb (Nat.le_refl _) [bw]) hP (fun q hq hm => ?_)) (Part.of_below hb3 (Nat.le_refl _) [bw])) hE (fun q hq hm => ?_)
  · simp at hm ⊢; omega
  · simp at hm ⊢; omega

set_option maxRecDepth 100000
set_option maxHeartbeats 1600000
theorem tdo_no {w : World} {a : Addr} {k t n : Int} (h : trightB k t n = false) :
    Calls Try.prog 90 #[.pointer (some a), .agg #[.int .u8 k, .int .i64 t, .int .i64 n]] w fun e w' => e = .returned (.tuple #[zeroV, .int .i64 2]) ∧ Below w.heap.size w w' := by
  have H := Lib.hid h
  clear h
  go_enter Try.func90, Try.ntmps90
  go_wp2_with (go_at_call 41; refine (tstart_no H.out).mono ?_; rintro e w1 ⟨rfl, hb⟩; have HB := Lib.hid hb; have hr := (Row.new2 w (.cells #[.int .u8 k, .int .i64 t, .int .i64 n] 97) 100 [.bool false, .int .i64 0, .int .i64 0] rfl).below hb (by simp); have z0 := hr.cell 0; have z1 := hr.cell 1; have z2 := hr.cell 2; have zf := hr.free; have zlt := hr.lt; clear hb hr)
  refine bodyPost_ret (v := .tuple #[zeroV, .int .i64 2]) (by simp [results, Try.results90, go_sem, zeroV, z0, z1, z2]) rfl ⟨rfl, ?_⟩
  repeat (first | (with_reducible exact Below.refl _ _) | refine Below.setCell ?_ (by simp) _)
  exact ((((Part.refl [] w).alloc _).alloc _).on HB.out).end_
theorem tdo_nil (k t n : Int) (w : World) :
    Calls Try.prog 90 #[.pointer none, .agg #[.int .u8 k, .int .i64 t, .int .i64 n]] w fun e w' => e = .returned (.tuple #[zeroV, .int .i64 1]) ∧ Below w.heap.size w w' := by
  go_enter Try.func90, Try.ntmps90
  go_wp2_with (go_at_call 41; refine (tstart_nil _ _ _ _).mono ?_; rintro e w1 ⟨rfl, hb⟩; have HB := Lib.hid hb; have hr := (Row.new2 w (.cells #[.int .u8 k, .int .i64 t, .int .i64 n] 97) 100 [.bool false, .int .i64 0, .int .i64 0] rfl).below hb (by simp); have z0 := hr.cell 0; have z1 := hr.cell 1; have z2 := hr.cell 2; have zf := hr.free; have zlt := hr.lt; clear hb hr)
  refine bodyPost_ret (v := .tuple #[zeroV, .int .i64 1]) (by simp [results, Try.results90, go_sem, zeroV, z0, z1, z2]) rfl ⟨rfl, ?_⟩
  repeat (first | (with_reducible exact Below.refl _ _) | refine Below.setCell ?_ (by simp) _)
  exact ((((Part.refl [] w).alloc _).alloc _).on HB.out).end_
end Go.Proofs.Ytcocegneegjcpaa
