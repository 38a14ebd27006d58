/- THE WALKS of rulerOf. -/
import Derived.Test.YtiifhkfkcljoiaaWc
namespace Go.Proofs.Ytiifhkfkcljoiaa.Sc
open Go.RowKit
theorem len_any (x : Int) (w : World) (h0 : 0 ≤ x) (h1 : x ≤ 18446744073709551615) : Calls Try.prog 78 #[.int .u64 x] w fun e w' => e = .returned (.int .i64 (Lib.bitLen x.toNat)) ∧ w = w' :=
  (Try.bits_Len x w h0 h1).mono fun _ _ ⟨a, b⟩ => ⟨a, b.symm⟩
def eOf (l : Int) : Nat := Lib.bitLen l.toNat - 1
def hOf (d : Int) : Nat := if d = 1 then 4 else if d = 2 then 7 else 10
theorem eOf_val {l : Int} (h1 : 1 ≤ l) (h2 : l ≤ 1099511627776) : (Lib.bitLen l.toNat : Int) - 1 = (eOf l : Int) ∧ (eOf l : Int) ≤ 40 := by
  unfold eOf
  obtain ⟨a, b, c⟩ := SC.bl_pos (n := l.toNat) (by omega) (by omega)
  have : Lib.bitLen l.toNat - 1 < 41 := (Nat.pow_lt_pow_iff_right (a := 2) (by omega)).1 (Nat.lt_of_le_of_lt b (by omega))
  omega
theorem len19 : Lib.bitLen (19 : Int).toNat = 5 := by decide +kernel
set_option maxHeartbeats 400000 in
theorem ruler1 (l h : Int) (a1 : 1 ≤ l) (a2 : l ≤ 1099511627776) (w : World) : Calls Try.prog 51 #[.agg #[.int .i64 l, .int .i64 h, .int .i64 1]] w fun e w' => e = .returned (.agg #[.int .i64 (eOf l), .int .i64 4]) ∧ Below w.heap.size w w' := by
  obtain ⟨hE, hE40⟩ := eOf_val a1 a2
  have hbl : (Lib.bitLen l.toNat : Int) ≤ 64 := by omega
  have hbl0 : (0 : Int) ≤ (Lib.bitLen l.toNat : Int) := by omega
  have HE := Lib.hid hE
  clear hE
  have hw : IntKind.u64.wrap l = l := IntWalk.u64_in _ (by omega)
  go_enter Try.func51, Try.ntmps51
  go_wp2
  refine wp_loop_rounds 2 ?_
  rw [rounds_succ]
  go_wp2_with (fail)
  rw [rounds_succ]
  go_wp2_with (first
    | (go_at_call 77; refine (len64_any l _ (by omega) (by omega)).mono ?_; rintro e wx ⟨rfl, rfl⟩)
    | (go_at_call 78; refine (len_any 19 _ (by omega) (by omega)).mono ?_; rw [len19]; rintro e wx ⟨rfl, rfl⟩))
  exact bodyPost_ret (v := .agg #[.int .i64 ((Lib.bitLen l.toNat : Int) - 1), .int .i64 4]) (by simp [results, Try.results51, go_sem]) rfl ⟨by rw [HE.out], ((Below.refl _ _).alloc (Nat.le_refl _) _).alloc (by simp) _⟩
theorem len199 : Lib.bitLen (199 : Int).toNat = 8 := by decide +kernel
set_option maxHeartbeats 400000 in
theorem ruler2 (l h : Int) (a1 : 1 ≤ l) (a2 : l ≤ 1099511627776) (w : World) : Calls Try.prog 51 #[.agg #[.int .i64 l, .int .i64 h, .int .i64 2]] w fun e w' => e = .returned (.agg #[.int .i64 (eOf l), .int .i64 7]) ∧ Below w.heap.size w w' := by
  obtain ⟨hE, hE40⟩ := eOf_val a1 a2
  have hbl : (Lib.bitLen l.toNat : Int) ≤ 64 := by omega
  have hbl0 : (0 : Int) ≤ (Lib.bitLen l.toNat : Int) := by omega
  have HE := Lib.hid hE
  clear hE
  have hw : IntKind.u64.wrap l = l := IntWalk.u64_in _ (by omega)
  go_enter Try.func51, Try.ntmps51
  go_wp2
  refine wp_loop_rounds 3 ?_
  rw [rounds_succ]
  go_wp2_with (fail)
  rw [rounds_succ]
  go_wp2_with (fail)
  rw [rounds_succ]
  go_wp2_with (first
    | (go_at_call 77; refine (len64_any l _ (by omega) (by omega)).mono ?_; rintro e wx ⟨rfl, rfl⟩)
    | (go_at_call 78; refine (len_any 199 _ (by omega) (by omega)).mono ?_; rw [len199]; rintro e wx ⟨rfl, rfl⟩))
  exact bodyPost_ret (v := .agg #[.int .i64 ((Lib.bitLen l.toNat : Int) - 1), .int .i64 7]) (by simp [results, Try.results51, go_sem]) rfl ⟨by rw [HE.out], ((Below.refl _ _).alloc (Nat.le_refl _) _).alloc (by simp) _⟩
theorem len1999 : Lib.bitLen (1999 : Int).toNat = 11 := by decide +kernel
set_option maxHeartbeats 400000 in
theorem ruler3 (l h : Int) (a1 : 1 ≤ l) (a2 : l ≤ 1099511627776) (w : World) : Calls Try.prog 51 #[.agg #[.int .i64 l, .int .i64 h, .int .i64 3]] w fun e w' => e = .returned (.agg #[.int .i64 (eOf l), .int .i64 10]) ∧ Below w.heap.size w w' := by
  obtain ⟨hE, hE40⟩ := eOf_val a1 a2
  have hbl : (Lib.bitLen l.toNat : Int) ≤ 64 := by omega
  have hbl0 : (0 : Int) ≤ (Lib.bitLen l.toNat : Int) := by omega
  have HE := Lib.hid hE
  clear hE
  have hw : IntKind.u64.wrap l = l := IntWalk.u64_in _ (by omega)
  go_enter Try.func51, Try.ntmps51
  go_wp2
  refine wp_loop_rounds 4 ?_
  rw [rounds_succ]
  go_wp2_with (fail)
  rw [rounds_succ]
  go_wp2_with (fail)
  rw [rounds_succ]
  go_wp2_with (fail)
  rw [rounds_succ]
  go_wp2_with (first
    | (go_at_call 77; refine (len64_any l _ (by omega) (by omega)).mono ?_; rintro e wx ⟨rfl, rfl⟩)
    | (go_at_call 78; refine (len_any 1999 _ (by omega) (by omega)).mono ?_; rw [len1999]; rintro e wx ⟨rfl, rfl⟩))
  exact bodyPost_ret (v := .agg #[.int .i64 ((Lib.bitLen l.toNat : Int) - 1), .int .i64 10]) (by simp [results, Try.results51, go_sem]) rfl ⟨by rw [HE.out], ((Below.refl _ _).alloc (Nat.le_refl _) _).alloc (by simp) _⟩
theorem ruler_any {l h d : Int} (r : rightB l h d = true) (w : World) : Calls Try.prog 51 #[.agg #[.int .i64 l, .int .i64 h, .int .i64 d]] w fun e w' => e = .returned (.agg #[.int .i64 (eOf l), .int .i64 (hOf d)]) ∧ Below w.heap.size w w' := by
  obtain ⟨a1, a2, a3, a4, a5, a6⟩ := right_of r
  obtain rfl | rfl | rfl : d = 1 ∨ d = 2 ∨ d = 3 := by omega
  · exact ruler1 l h a1 a2 w
  · exact ruler2 l h a1 a2 w
  · exact ruler3 l h a1 a2 w
end Go.Proofs.Ytiifhkfkcljoiaa.Sc
