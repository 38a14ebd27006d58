/- THE WALKS of package snap: Start. -/
import Derived.Test.YtdadgppbpomdoaaPf
namespace Go.Proofs.Ytdadgppbpomdoaa
open Go Go.RowKit

/-- what Start leaves, of an operation that is right: an operation of its own -/
def BegunP (w : World) (l : List Value) (e : Ending) (w' : World) : Prop :=
  ∃ bp, e = .returned (.tuple #[.pointer (some ⟨bp, 0, none⟩), .int .i64 0]) ∧ w.heap.size ≤ bp ∧ Row w' bp 82 l ∧ Below w.heap.size w w'

set_option maxHeartbeats 1600000
set_option maxRecDepth 100000
theorem pstart_no {w : World} {br bk bw : Nat} {ws : List Int} {k r v t : Int} (h : Regs w br bk bw ws) (hr : rightS ws.length k r v t = false) :
    Calls Try.prog 12 #[.pointer (some ⟨br, 0, none⟩), .agg #[.int .u8 k, .int .i64 r, .int .u32 v, .int .i64 t]] w fun e w' => e = .returned (.tuple #[.pointer none, .int .i64 2]) ∧ Below w.heap.size w w' := by
  have H := Lib.hid h
  have HR := Lib.hid hr
  clear h hr
  go_enter Try.func12, Try.ntmps12
  go_wp2_with (go_at_call 29; refine (rcheck_no (H.out.alloc _) HR.out).mono ?_; rintro e w1 ⟨rfl, hb⟩; have HB := Lib.hid hb; clear hb)
  go_ret2
  exact ⟨rfl, ((Part.refl [] w).alloc _ |>.on HB.out).end_⟩
theorem pstart_put {w : World} {br bk bw : Nat} {ws : List Int} (r v : Int) (h : Regs w br bk bw ws) (hr : rightS ws.length 1 r v 0 = true) :
    Calls Try.prog 12 #[.pointer (some ⟨br, 0, none⟩), .agg #[.int .u8 1, .int .i64 r, .int .u32 v, .int .i64 0]] w (BegunP w (pendP bk 1 r v 0 (fnV 30) 0 nilS nilS 0 nilS false 0)) := by
  have H := Lib.hid h
  have HR := Lib.hid hr
  clear h hr
  go_enter Try.func12, Try.ntmps12
  go_wp2_with (go_at_call 29; refine (rcheck_yes (H.out.alloc _) HR.out).mono ?_; rintro e w1 ⟨rfl, hb⟩; have HB := Lib.hid hb; have H1 := Lib.hid ((H.out.alloc _).on hb); have hc1 := H1.out.hc; have hop : Row w1 w.heap.size 37 [.int .u8 1, .int .i64 r, .int .u32 v, .int .i64 0] := (Row.new w _ _).below hb (by simp); obtain ⟨o0, o1, o2, o3⟩ := hop.four; have hw1 : w.heap.size < w1.heap.size := hop.lt; clear hop; clear hb)
  go_region
  all_goals
    go_wp2
    go_ret2
    refine ⟨w1.heap.size, rfl, by omega, Row.drew (Row.new w1 _ _), Part.end_ ?_⟩
    exact ((((Part.refl [] w).alloc _).on HB.out).alloc _).drew
theorem pstart_get {w : World} {br bk bw : Nat} {ws : List Int} (r : Int) (h : Regs w br bk bw ws) (hr : rightS ws.length 2 r 0 0 = true) :
    Calls Try.prog 12 #[.pointer (some ⟨br, 0, none⟩), .agg #[.int .u8 2, .int .i64 r, .int .u32 0, .int .i64 0]] w (BegunP w (pendP bk 2 r 0 0 (fnV 31) 0 nilS nilS 0 nilS false 0)) := by
  have H := Lib.hid h
  have HR := Lib.hid hr
  clear h hr
  go_enter Try.func12, Try.ntmps12
  go_wp2_with (go_at_call 29; refine (rcheck_yes (H.out.alloc _) HR.out).mono ?_; rintro e w1 ⟨rfl, hb⟩; have HB := Lib.hid hb; have H1 := Lib.hid ((H.out.alloc _).on hb); have hc1 := H1.out.hc; have hop : Row w1 w.heap.size 37 [.int .u8 2, .int .i64 r, .int .u32 0, .int .i64 0] := (Row.new w _ _).below hb (by simp); obtain ⟨o0, o1, o2, o3⟩ := hop.four; have hw1 : w.heap.size < w1.heap.size := hop.lt; clear hop; clear hb)
  go_region
  all_goals
    go_wp2
    go_ret2
    refine ⟨w1.heap.size, rfl, by omega, Row.drew (Row.new w1 _ _), Part.end_ ?_⟩
    exact ((((Part.refl [] w).alloc _).on HB.out).alloc _).drew
theorem pstart_scan {w : World} {br bk bw : Nat} {ws : List Int} (t : Int) (h : Regs w br bk bw ws) (hr : rightS ws.length 3 0 0 t = true) :
    Calls Try.prog 12 #[.pointer (some ⟨br, 0, none⟩), .agg #[.int .u8 3, .int .i64 0, .int .u32 0, .int .i64 t]] w (BegunP w (pendP bk 3 0 0 t (fnV 32) 0 nilS nilS 0 nilS false 0)) := by
  have H := Lib.hid h
  have HR := Lib.hid hr
  clear h hr
  go_enter Try.func12, Try.ntmps12
  go_wp2_with (go_at_call 29; refine (rcheck_yes (H.out.alloc _) HR.out).mono ?_; rintro e w1 ⟨rfl, hb⟩; have HB := Lib.hid hb; have H1 := Lib.hid ((H.out.alloc _).on hb); have hc1 := H1.out.hc; have hop : Row w1 w.heap.size 37 [.int .u8 3, .int .i64 0, .int .u32 0, .int .i64 t] := (Row.new w _ _).below hb (by simp); obtain ⟨o0, o1, o2, o3⟩ := hop.four; have hw1 : w.heap.size < w1.heap.size := hop.lt; clear hop; clear hb)
  go_region
  all_goals
    go_wp2
    go_ret2
    refine ⟨w1.heap.size, rfl, by omega, Row.drew (Row.new w1 _ _), Part.end_ ?_⟩
    exact ((((Part.refl [] w).alloc _).on HB.out).alloc _).drew
end Go.Proofs.Ytdadgppbpomdoaa
