/- THE WALKS of package tokens: Done, Answer, Start; the calls on nil. -/
import Derived.Test.YtcocegneegjcpaaTb
namespace Go.Proofs.Ytcocegneegjcpaa
open Go Go.RowKit

theorem teql_nil_nil (w : World) : (binOp BinOp.eql 138 Value.nilFunc Value.nilFunc).run Try.prog w = .ok (.bool true) w := by kernel_rfl
theorem teql_fn_nil (f : FuncId) (w : World) : (binOp BinOp.eql 138 (.func (.func f) #[] #[]) Value.nilFunc).run Try.prog w = .ok (.bool false) w := by kernel_rfl
set_option maxRecDepth 100000
section
variable {w : World} {bp bt : Nat} {t n saw put wait left : Int} {ok : Bool} {f : FuncId}
theorem tdone_no (h : Row w bp 140 (pendT bt t n saw put (fnV f) ok wait left)) :
    Calls Try.prog 45 #[.pointer (some ⟨bp, 0, none⟩)] w fun e w' => e = .returned (.bool false) ∧ w = w' := by
  obtain ⟨c0, c1, c2, c3, c4, c5, c6, c7, c8⟩ := pendT_cells h
  unfold fnV at c5
  have q3 := teql_fn_nil
  clear h
  go_enter Try.func45, Try.ntmps45
  go_wp2
  go_ret
  exact ⟨rfl, rfl⟩
theorem tdone_yes (h : Row w bp 140 (pendT bt t n saw put .nilFunc ok wait left)) :
    Calls Try.prog 45 #[.pointer (some ⟨bp, 0, none⟩)] w fun e w' => e = .returned (.bool true) ∧ w = w' := by
  obtain ⟨c0, c1, c2, c3, c4, c5, c6, c7, c8⟩ := pendT_cells h
  have q1 := teql_nil_nil
  clear h
  go_enter Try.func45, Try.ntmps45
  go_wp2
  go_ret
  exact ⟨rfl, rfl⟩
theorem tanswer_any {nx : Value} (h : Row w bp 140 (pendT bt t n saw put nx ok wait left)) :
    Calls Try.prog 46 #[.pointer (some ⟨bp, 0, none⟩)] w fun e w' => e = .returned (.agg #[.bool ok, .int .i64 wait, .int .i64 left]) ∧ Below w.heap.size w w' := by
  obtain ⟨c0, c1, c2, c3, c4, c5, c6, c7, c8⟩ := pendT_cells h
  have hlt := h.lt
  clear h
  go_enter Try.func46, Try.ntmps46
  go_wp2
  refine bodyPost_ret (v := .agg #[.bool ok, .int .i64 wait, .int .i64 left]) (by simp [results, Try.results46, go_sem]) rfl ⟨rfl, ?_⟩
  repeat (first | exact Below.refl _ _ | refine Below.alloc ?_ (by simp; try omega) _ | refine Below.setCell ?_ (by simp) _)
end
theorem tdone_nil (w : World) : Calls Try.prog 45 #[.pointer none] w fun e w' => e = .returned (.bool true) ∧ w = w' := by
  go_enter Try.func45, Try.ntmps45
  go_wp2
  go_ret
  exact ⟨rfl, rfl⟩
theorem tanswer_nil (w : World) : Calls Try.prog 46 #[.pointer none] w fun e w' => e = .returned (.agg #[.bool false, .int .i64 0, .int .i64 0]) ∧ Below w.heap.size w w' := by
  go_enter Try.func46, Try.ntmps46
  go_wp2
  refine bodyPost_ret (v := .agg #[.bool false, .int .i64 0, .int .i64 0]) (by simp [results, Try.results46, go_sem]) rfl ⟨rfl, ?_⟩
  repeat (first | exact Below.refl _ _ | refine Below.alloc ?_ (by simp; try omega) _ | refine Below.setCell ?_ (by simp) _)
theorem tstep_nil (w : World) : Calls Try.prog 43 #[.pointer none] w fun e w' => e = .returned (.tuple #[.agg #[.int .u8 0, .int .i64 0, .int .u64 0, .int .u64 0, .bool false], .bool true]) ∧ Below w.heap.size w w' := by
  go_enter Try.func43, Try.ntmps43
  go_wp2_with (go_at_call 45; refine (tdone_nil _).mono ?_; rintro e wx ⟨rfl, rfl⟩)
  refine bodyPost_ret (v := .tuple #[.agg #[.int .u8 0, .int .i64 0, .int .u64 0, .int .u64 0, .bool false], .bool true]) (by simp [results, Try.results43, go_sem]) rfl ⟨rfl, ?_⟩
  repeat (first | exact Below.refl _ _ | refine Below.alloc ?_ (by simp; try omega) _ | refine Below.setCell ?_ (by simp) _)
theorem tstep_over {w : World} {bp bt : Nat} {t n saw put wait left : Int} {ok : Bool} (h : Row w bp 140 (pendT bt t n saw put .nilFunc ok wait left)) :
    Calls Try.prog 43 #[.pointer (some ⟨bp, 0, none⟩)] w fun e w' => e = .returned (.tuple #[.agg #[.int .u8 0, .int .i64 0, .int .u64 0, .int .u64 0, .bool false], .bool true]) ∧ Below w.heap.size w w' := by
  go_enter Try.func43, Try.ntmps43
  go_wp2_with (go_at_call 45; refine (tdone_yes (h.alloc _)).mono ?_; rintro e wx ⟨rfl, rfl⟩)
  refine bodyPost_ret (v := .tuple #[.agg #[.int .u8 0, .int .i64 0, .int .u64 0, .int .u64 0, .bool false], .bool true]) (by simp [results, Try.results43, go_sem]) rfl ⟨rfl, ?_⟩
  repeat (first | exact Below.refl _ _ | refine Below.alloc ?_ (by simp; try omega) _ | refine Below.setCell ?_ (by simp) _)
theorem tstart_nil (k t n : Int) (w : World) : Calls Try.prog 41 #[.pointer none, .agg #[.int .u8 k, .int .i64 t, .int .i64 n]] w fun e w' => e = .returned (.tuple #[.pointer none, .int .i64 1]) ∧ Below w.heap.size w w' := by
  go_enter Try.func41, Try.ntmps41
  go_wp2
  go_ret2
  refine ⟨rfl, ?_⟩
  repeat (first | exact Below.refl _ _ | refine Below.alloc ?_ (by simp; try omega) _ | refine Below.setCell ?_ (by simp) _)
theorem tstart_no {w : World} {a : Addr} {k t n : Int} (h : trightB k t n = false) :
    Calls Try.prog 41 #[.pointer (some a), .agg #[.int .u8 k, .int .i64 t, .int .i64 n]] w fun e w' => e = .returned (.tuple #[.pointer none, .int .i64 2]) ∧ Below w.heap.size w w' := by
  have H := Lib.hid h
  clear h
  go_enter Try.func41, Try.ntmps41
  go_wp2_with (go_at_call 75; refine (tright_any _ _ _ _).mono ?_; rw [H.out]; rintro e w1 ⟨rfl, hb⟩; have HB := Lib.hid hb; clear hb)
  go_ret2
  exact ⟨rfl, ((((Part.refl [] w).alloc _).on HB.out).end_)⟩
/-- what Start leaves, of an operation that is right: an operation of its own -/
def BegunT (w : World) (l : List Value) (e : Ending) (w' : World) : Prop :=
  ∃ bp, e = .returned (.tuple #[.pointer (some ⟨bp, 0, none⟩), .int .i64 0]) ∧ w.heap.size ≤ bp ∧ Row w' bp 140 l ∧ Below w.heap.size w w'
theorem tstart_take {w : World} {bt : Nat} {t n : Int} (h : trightB 1 t n = true) :
    Calls Try.prog 41 #[.pointer (some ⟨bt, 0, none⟩), .agg #[.int .u8 1, .int .i64 t, .int .i64 n]] w (BegunT w (pendT bt t n 0 0 (fnV 76) false 0 0)) := by
  have H := Lib.hid h
  clear h
  go_enter Try.func41, Try.ntmps41
  go_wp2_with (go_at_call 75; refine (tright_any _ _ _ _).mono ?_; rw [H.out]; rintro e w1 ⟨rfl, hb⟩; have HB := Lib.hid hb; have hop : Row w1 w.heap.size 97 [.int .u8 1, .int .i64 t, .int .i64 n] := (Row.new w _ _).below hb (by simp); have o0 := hop.cell 0; have o1 := hop.cell 1; have o2 := hop.cell 2; have hw1 : w.heap.size < w1.heap.size := hop.lt; clear hop; clear hb)
  go_ret2
  exact ⟨w1.heap.size, rfl, by omega, Row.new w1 _ (pendT _ _ _ _ _ _ _ _ _), Part.end_ ((((Part.refl [] w).alloc _).on HB.out).alloc _)⟩
theorem tstart_peek {w : World} {bt : Nat} {t n : Int} (h : trightB 2 t n = true) :
    Calls Try.prog 41 #[.pointer (some ⟨bt, 0, none⟩), .agg #[.int .u8 2, .int .i64 t, .int .i64 n]] w (BegunT w (pendT bt t n 0 0 (fnV 77) false 0 0)) := by
  have H := Lib.hid h
  clear h
  go_enter Try.func41, Try.ntmps41
  go_wp2_with (go_at_call 75; refine (tright_any _ _ _ _).mono ?_; rw [H.out]; rintro e w1 ⟨rfl, hb⟩; have HB := Lib.hid hb; have hop : Row w1 w.heap.size 97 [.int .u8 2, .int .i64 t, .int .i64 n] := (Row.new w _ _).below hb (by simp); have o0 := hop.cell 0; have o1 := hop.cell 1; have o2 := hop.cell 2; have hw1 : w.heap.size < w1.heap.size := hop.lt; clear hop; clear hb)
  go_ret2
  exact ⟨w1.heap.size, rfl, by omega, Row.new w1 _ (pendT _ _ _ _ _ _ _ _ _), Part.end_ ((((Part.refl [] w).alloc _).on HB.out).alloc _)⟩
end Go.Proofs.Ytcocegneegjcpaa
