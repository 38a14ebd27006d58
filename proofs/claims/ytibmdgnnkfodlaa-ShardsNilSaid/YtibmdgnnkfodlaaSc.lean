/- THE WALKS of the calls on nil, and of the law 'ShardsNil'. -/
import Derived.Test.YtibmdgnnkfodlaaSb
import Derived.Laws.StructEq
namespace Go.Proofs.Ytibmdgnnkfodlaa
open Go Go.RowKit

theorem sdone_nil (w : World) : Calls Try.prog 45 #[.pointer none] w fun e w' => e = .returned (.bool true) ∧ w = w' := by
  go_enter Try.func45, Try.ntmps45
  go_wp2
  go_ret
  exact ⟨rfl, rfl⟩
theorem sanswer_nil (w : World) : Calls Try.prog 46 #[.pointer none] w fun e w' => e = .returned (.int .u64 0) ∧ w = w' := by
  go_enter Try.func46, Try.ntmps46
  go_wp2
  go_ret
  exact ⟨rfl, rfl⟩
theorem sstep_nil (w : World) : Calls Try.prog 42 #[.pointer none] w fun e w' => e = .returned (.tuple #[.agg #[.int .u8 0, .int .i64 0, .int .u64 0, .int .u64 0, .bool false], .bool true]) ∧ Below w.heap.size w w' := by
  go_enter Try.func42, Try.ntmps42
  go_wp2_with (go_at_call 45; refine (sdone_nil _).mono ?_; rintro e wx ⟨rfl, rfl⟩)
  refine bodyPost_ret (v := .tuple #[.agg #[.int .u8 0, .int .i64 0, .int .u64 0, .int .u64 0, .bool false], .bool true]) (by simp [results, Try.results42, go_sem]) rfl ⟨rfl, ?_⟩
  repeat (first | exact Below.refl _ _ | refine Below.alloc ?_ (by simp; try omega) _ | refine Below.setCell ?_ (by simp) _)
theorem sstart_nil (k i y : Int) (w : World) : Calls Try.prog 40 #[.pointer none, .agg #[.int .u8 k, .int .i64 i, .int .u64 y]] w fun e w' => e = .returned (.tuple #[.pointer none, .int .i64 1]) ∧ Below w.heap.size w w' := by
  go_enter Try.func40, Try.ntmps40
  go_wp2
  go_ret2
  refine ⟨rfl, ?_⟩
  repeat (first | exact Below.refl _ _ | refine Below.alloc ?_ (by simp; try omega) _ | refine Below.setCell ?_ (by simp) _)

set_option maxRecDepth 100000 in
set_option maxHeartbeats 3200000 in
theorem nil_any (k i y : Int) (w : World) : Calls Try.prog 9 #[.agg #[.int .u8 k, .int .i64 i, .int .u64 y]] w fun e w' => e = .returned (.bool true) ∧ Below w.heap.size w w' := by
  go_enter Try.func9, Try.ntmps9
  go_wp2_with (first
    | (go_at_call 49; refine cadd_nil.mono ?_; rintro e wx ⟨rfl, rfl⟩)
    | (go_at_call 50; refine cread_nil.mono ?_; rintro e wx ⟨rfl, rfl⟩)
    | (go_at_call 40; refine (sstart_nil _ _ _ _).mono ?_; rintro e w1 ⟨rfl, hb⟩; have HB1 := Lib.hid hb; clear hb)
    | (go_at_call 42; refine (sstep_nil _).mono ?_; rintro e w2 ⟨rfl, hb⟩; have HB2 := Lib.hid hb; clear hb)
    | (go_at_call 38; refine (begins_any _).mono ?_; rintro e w3 ⟨rfl, hb⟩; have HB3 := Lib.hid hb; clear hb; have hr3 : Row w3 w2.heap.size 45 [.int .u8 0, .int .i64 0, .int .u64 0, .int .u64 0, .bool false] := (Row.new w2 _ _).below HB3.out (by simp); obtain ⟨d0, d1, d2, d3, d4⟩ := hr3.five; clear hr3)
    | (go_at_call 39; refine (clen_nil _).mono ?_; rintro e wx ⟨rfl, rfl⟩)
    | (go_at_call 48; refine (call_nil _).mono ?_; rintro e wx ⟨rfl, rfl⟩)
    | (go_at_call 51; refine (csum_nil _).mono ?_; rintro e wx ⟨rfl, rfl⟩)
    | (go_at_call 52; refine (ctake_nil _).mono ?_; rintro e wx ⟨rfl, rfl⟩)
    | (go_at_call 45; refine (sdone_nil _).mono ?_; rintro e wx ⟨rfl, rfl⟩)
    | (go_at_call 46; refine (sanswer_nil _).mono ?_; rintro e wx ⟨rfl, rfl⟩))
  go_ret
  exact ⟨rfl, ((((((Part.refl [] w).alloc _).on HB1.out).on HB2.out).alloc _).on HB3.out).end_⟩
end Go.Proofs.Ytibmdgnnkfodlaa
