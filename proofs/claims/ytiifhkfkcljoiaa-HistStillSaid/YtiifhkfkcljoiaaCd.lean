/- THE WALKS of package cells: outcome, cas, rightAct, act, Do. -/
import Derived.Test.YtiifhkfkcljoiaaCc
namespace Go.Proofs.Ytiifhkfkcljoiaa
open Go Go.RowKit

set_option maxHeartbeats 800000
theorem out_load (c o n saw : Int) (w : World) :
    Calls Try.prog 101 #[.agg #[.int .u8 1, .int .i64 c, .int .u64 o, .int .u64 n], .int .u64 saw] w fun e w' => e = .returned (.agg #[.int .u8 1, .int .i64 c, .int .u64 saw, .int .u64 saw, .bool true]) ∧ Below w.heap.size w w' := by
  go_enter Try.func101, Try.ntmps101
  go_wp2
  refine bodyPost_ret (v := .agg #[.int .u8 1, .int .i64 c, .int .u64 saw, .int .u64 saw, .bool true]) (by simp [results, Try.results101, go_sem]) rfl ⟨rfl, ?_⟩
  repeat (first | exact Below.refl _ _ | refine Below.alloc ?_ (by simp; try omega) _ | refine Below.setCell ?_ (by simp) _)
theorem out_store (c o n saw : Int) (w : World) :
    Calls Try.prog 101 #[.agg #[.int .u8 2, .int .i64 c, .int .u64 o, .int .u64 n], .int .u64 saw] w fun e w' => e = .returned (.agg #[.int .u8 2, .int .i64 c, .int .u64 saw, .int .u64 n, .bool true]) ∧ Below w.heap.size w w' := by
  go_enter Try.func101, Try.ntmps101
  go_wp2
  refine bodyPost_ret (v := .agg #[.int .u8 2, .int .i64 c, .int .u64 saw, .int .u64 n, .bool true]) (by simp [results, Try.results101, go_sem]) rfl ⟨rfl, ?_⟩
  repeat (first | exact Below.refl _ _ | refine Below.alloc ?_ (by simp; try omega) _ | refine Below.setCell ?_ (by simp) _)
theorem out_swap (c o n saw : Int) (w : World) :
    Calls Try.prog 101 #[.agg #[.int .u8 4, .int .i64 c, .int .u64 o, .int .u64 n], .int .u64 saw] w fun e w' => e = .returned (.agg #[.int .u8 4, .int .i64 c, .int .u64 saw, .int .u64 n, .bool true]) ∧ Below w.heap.size w w' := by
  go_enter Try.func101, Try.ntmps101
  go_wp2
  refine bodyPost_ret (v := .agg #[.int .u8 4, .int .i64 c, .int .u64 saw, .int .u64 n, .bool true]) (by simp [results, Try.results101, go_sem]) rfl ⟨rfl, ?_⟩
  repeat (first | exact Below.refl _ _ | refine Below.alloc ?_ (by simp; try omega) _ | refine Below.setCell ?_ (by simp) _)
theorem out_add (c o n saw : Int) (w : World) :
    Calls Try.prog 101 #[.agg #[.int .u8 3, .int .i64 c, .int .u64 o, .int .u64 n], .int .u64 saw] w fun e w' => e = .returned (.agg #[.int .u8 3, .int .i64 c, .int .u64 saw, .int .u64 (IntKind.u64.wrap (saw + n)), .bool true]) ∧ Below w.heap.size w w' := by
  go_enter Try.func101, Try.ntmps101
  go_wp2
  refine bodyPost_ret (v := .agg #[.int .u8 3, .int .i64 c, .int .u64 saw, .int .u64 (IntKind.u64.wrap (saw + n)), .bool true]) (by simp [results, Try.results101, go_sem]) rfl ⟨rfl, ?_⟩
  repeat (first | exact Below.refl _ _ | refine Below.alloc ?_ (by simp; try omega) _ | refine Below.setCell ?_ (by simp) _)
theorem out_hit (c saw n : Int) (w : World) :
    Calls Try.prog 101 #[.agg #[.int .u8 5, .int .i64 c, .int .u64 saw, .int .u64 n], .int .u64 saw] w fun e w' => e = .returned (.agg #[.int .u8 5, .int .i64 c, .int .u64 saw, .int .u64 n, .bool true]) ∧ Below w.heap.size w w' := by
  have he : ((saw : Int) == saw) = true := by simp
  go_enter Try.func101, Try.ntmps101
  go_wp2
  refine bodyPost_ret (v := .agg #[.int .u8 5, .int .i64 c, .int .u64 saw, .int .u64 n, .bool true]) (by simp [results, Try.results101, go_sem]) rfl ⟨rfl, ?_⟩
  repeat (first | exact Below.refl _ _ | refine Below.alloc ?_ (by simp; try omega) _ | refine Below.setCell ?_ (by simp) _)
theorem out_miss (c o n saw : Int) (h : ¬ saw = o) (w : World) :
    Calls Try.prog 101 #[.agg #[.int .u8 5, .int .i64 c, .int .u64 o, .int .u64 n], .int .u64 saw] w fun e w' => e = .returned (.agg #[.int .u8 5, .int .i64 c, .int .u64 saw, .int .u64 saw, .bool false]) ∧ Below w.heap.size w w' := by
  have he : ((saw : Int) == o) = false := by simpa using h
  clear h
  go_enter Try.func101, Try.ntmps101
  go_wp2
  refine bodyPost_ret (v := .agg #[.int .u8 5, .int .i64 c, .int .u64 saw, .int .u64 saw, .bool false]) (by simp [results, Try.results101, go_sem]) rfl ⟨rfl, ?_⟩
  repeat (first | exact Below.refl _ _ | refine Below.alloc ?_ (by simp; try omega) _ | refine Below.setCell ?_ (by simp) _)

theorem cas_hit {a : Addr} {x y : Int} {w : World} (hc : w.cell? a = some (.int .u64 x)) (hz : w.frozen? a = false) :
    Calls Try.prog 100 #[.pointer (some a), .int .u64 x, .int .u64 y] w fun e w' => e = .returned (.int .u64 x) ∧ w.setCell a (.int .u64 y) = w' := by
  have he : ((x : Int) != x) = false := by simp
  go_enter Try.func100, Try.ntmps100
  go_wp2
  refine wp_loop_rounds 1 ?_
  rw [rounds_succ]
  go_wp2_with (first
    | (go_at_call 73; refine (word_load hc).mono ?_; rintro e w' ⟨rfl, rfl⟩)
    | (go_at_call 104; refine (word_cas_hit hc hz).mono ?_; rintro e w' ⟨rfl, rfl⟩))
  go_ret
  exact ⟨rfl, rfl⟩
theorem cas_miss {a : Addr} {x o y : Int} {w : World} (hc : w.cell? a = some (.int .u64 x)) (hne : ¬ x = o) :
    Calls Try.prog 100 #[.pointer (some a), .int .u64 o, .int .u64 y] w fun e w' => e = .returned (.int .u64 x) ∧ w = w' := by
  have he : ((x : Int) != o) = true := by simpa using hne
  clear hne
  go_enter Try.func100, Try.ntmps100
  go_wp2
  refine wp_loop_rounds 1 ?_
  rw [rounds_succ]
  go_wp2_with (first
    | (go_at_call 73; refine (word_load hc).mono ?_; rintro e w' ⟨rfl, rfl⟩))
  go_ret
  exact ⟨rfl, rfl⟩
theorem right_load (c : Int) (w : World) :
    Calls Try.prog 96 #[.agg #[.int .u8 1, .int .i64 c, .int .u64 0, .int .u64 0]] w fun e w' => e = .returned (.bool true) ∧ Below w.heap.size w w' := by
  go_enter Try.func96, Try.ntmps96
  go_wp2
  go_ret
  exact ⟨rfl, by repeat (first | exact Below.refl _ _ | refine Below.alloc ?_ (by simp; try omega) _ | refine Below.setCell ?_ (by simp) _)⟩
theorem right_store (c n : Int) (w : World) :
    Calls Try.prog 96 #[.agg #[.int .u8 2, .int .i64 c, .int .u64 0, .int .u64 n]] w fun e w' => e = .returned (.bool true) ∧ Below w.heap.size w w' := by
  go_enter Try.func96, Try.ntmps96
  go_wp2
  go_ret
  exact ⟨rfl, by repeat (first | exact Below.refl _ _ | refine Below.alloc ?_ (by simp; try omega) _ | refine Below.setCell ?_ (by simp) _)⟩
theorem right_add (c n : Int) (w : World) :
    Calls Try.prog 96 #[.agg #[.int .u8 3, .int .i64 c, .int .u64 0, .int .u64 n]] w fun e w' => e = .returned (.bool true) ∧ Below w.heap.size w w' := by
  go_enter Try.func96, Try.ntmps96
  go_wp2
  go_ret
  exact ⟨rfl, by repeat (first | exact Below.refl _ _ | refine Below.alloc ?_ (by simp; try omega) _ | refine Below.setCell ?_ (by simp) _)⟩
theorem right_swap (c n : Int) (w : World) :
    Calls Try.prog 96 #[.agg #[.int .u8 4, .int .i64 c, .int .u64 0, .int .u64 n]] w fun e w' => e = .returned (.bool true) ∧ Below w.heap.size w w' := by
  go_enter Try.func96, Try.ntmps96
  go_wp2
  go_ret
  exact ⟨rfl, by repeat (first | exact Below.refl _ _ | refine Below.alloc ?_ (by simp; try omega) _ | refine Below.setCell ?_ (by simp) _)⟩
theorem right_cas (c o n : Int) (w : World) :
    Calls Try.prog 96 #[.agg #[.int .u8 5, .int .i64 c, .int .u64 o, .int .u64 n]] w fun e w' => e = .returned (.bool true) ∧ Below w.heap.size w w' := by
  go_enter Try.func96, Try.ntmps96
  go_wp2
  go_ret
  exact ⟨rfl, by repeat (first | exact Below.refl _ _ | refine Below.alloc ?_ (by simp; try omega) _ | refine Below.setCell ?_ (by simp) _)⟩
end Go.Proofs.Ytiifhkfkcljoiaa
