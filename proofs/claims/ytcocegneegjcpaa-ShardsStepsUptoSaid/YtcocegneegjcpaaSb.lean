/- THE WALK of the statements' own question 'begins' (a counter counts); the calls on nil. -/
import Derived.Test.YtcocegneegjcpaaSa
namespace Go.Proofs.Ytcocegneegjcpaa
open Go Go.RowKit

theorem Part.on {S : List Nat} {w w1 w2 : World} (h : Part S w w1) (hb : Below w1.heap.size w1 w2) : Part S w w2 := h.then_ (Part.of_below hb (Nat.le_refl _) S)
theorem Part.end_ {w w1 : World} (h : Part [] w w1) : Below w.heap.size w w1 := h.below (Nat.le_refl _) (by simp)
theorem b_add0 {w : World} {bc bk bw : Nat} (h : Shard w bc bk bw (List.replicate 2 0)) :
    Calls Try.prog 33 #[.pointer (some ⟨bc, 0, none⟩), .int .i64 0, .int .u64 5] w (Added w bc bk bw [5, 0] (.tuple #[.int .u64 5, .int .i64 0])) := by
  have e : IntKind.u64.wrap (0 + 5) = 5 := by rw [IntKind.wrap_u64]; rfl
  have := cadd_any h (k := 0) (x := 0) (y := 5) rfl (by omega)
  rw [e] at this
  exact this
theorem b_add3 {w : World} {bc bk bw : Nat} (h : Shard w bc bk bw [5, 0]) :
    Calls Try.prog 33 #[.pointer (some ⟨bc, 0, none⟩), .int .i64 3, .int .u64 7] w (Added w bc bk bw [5, 7] (.tuple #[.int .u64 7, .int .i64 0])) := by
  have e : IntKind.u64.wrap (0 + 7) = 7 := by rw [IntKind.wrap_u64]; rfl
  have := cadd_any h (k := 3) (x := 0) (y := 7) rfl (by omega)
  rw [e] at this
  exact this
theorem b_sum {w : World} {bc bk bw : Nat} (h : Shard w bc bk bw [5, 7]) :
    Calls Try.prog 35 #[.pointer (some ⟨bc, 0, none⟩)] w fun e w' => e = .returned (.int .u64 12) ∧ w = w' := by
  have e : sumW [5, 7] = 12 := by simp only [sumW, List.foldl_cons, List.foldl_nil, IntKind.wrap_u64]; rfl
  have := csum_any h
  rw [e] at this
  exact this
theorem b_take {w : World} {bc bk bw : Nat} (h : Shard w bc bk bw [5, 7]) :
    Calls Try.prog 36 #[.pointer (some ⟨bc, 0, none⟩)] w (Added w bc bk bw [0, 0] (.int .u64 12)) := by
  have e : sumW [5, 7] = 12 := by simp only [sumW, List.foldl_cons, List.foldl_nil, IntKind.wrap_u64]; rfl
  have := ctake_any h
  rw [e] at this
  exact this
theorem b_none {w : World} {bc bk bw : Nat} (h : Shard w bc bk bw [0, 0]) :
    Calls Try.prog 35 #[.pointer (some ⟨bc, 0, none⟩)] w fun e w' => e = .returned (.int .u64 0) ∧ w = w' := by
  have e : sumW [0, 0] = 0 := by simp only [sumW, List.foldl_cons, List.foldl_nil, IntKind.wrap_u64]; rfl
  have := csum_any h
  rw [e] at this
  exact this

theorem b_begun (w : World) : Calls Try.prog 20 #[.int .i64 2] w (FreshC w 2 (.bool true)) := begun_yes w (n := 2) (by omega) (by omega)

set_option maxRecDepth 100000 in
set_option maxHeartbeats 1600000 in
theorem begins_any (w : World) : Calls Try.prog 22 #[] w fun e w' => e = .returned (.bool true) ∧ Below w.heap.size w w' := by
  go_enter Try.func22, Try.ntmps22
  go_wp2_with (first
    | (go_at_call 20; refine (b_begun _).mono ?_; rintro e w1 ⟨bc, bk, bw, rfl, hc, hk, hw, hS, hb⟩; have HC := Lib.hid hc; have HK := Lib.hid hk; have HW := Lib.hid hw; have HS := Lib.hid hS; have HB := Lib.hid hb; clear hc hk hw hS hb)
    | (go_at_call 33; (with_reducible refine (b_add0 HS.out).mono ?_); rintro e w2 ⟨rfl, hS2, hP2⟩; have HS2 := Lib.hid hS2; have HP2 := Lib.hid hP2; clear hS2 hP2)
    | (go_at_call 33; (with_reducible refine (b_add3 HS2.out).mono ?_); rintro e w3 ⟨rfl, hS3, hP3⟩; have HS3 := Lib.hid hS3; have HP3 := Lib.hid hP3; clear hS3 hP3)
    | (go_at_call 35; (with_reducible refine (b_sum HS3.out).mono ?_); rintro e wx ⟨rfl, rfl⟩)
    | (go_at_call 36; (with_reducible refine (b_take HS3.out).mono ?_); rintro e w4 ⟨rfl, hS4, hP4⟩; have HS4 := Lib.hid hS4; have HP4 := Lib.hid hP4; clear hS4 hP4)
    | (go_at_call 35; (with_reducible refine (b_none HS4.out).mono ?_); rintro e wx ⟨rfl, rfl⟩))
  go_ret
  exact ⟨rfl, (HB.out.trans ((((HP2.out.then_ HP3.out).then_ HP4.out).below (B := w.heap.size) HB.out.size (by simpa using HW.out))))⟩
end Go.Proofs.Ytcocegneegjcpaa
