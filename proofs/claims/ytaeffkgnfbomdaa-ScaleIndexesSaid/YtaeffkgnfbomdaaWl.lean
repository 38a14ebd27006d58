/- THE WALKS of the document's own Count, Index, Bounds. -/
import Derived.Test.YtaeffkgnfbomdaaWj
namespace Go.Proofs.Ytaeffkgnfbomdaa
open Go.RowKit
set_option maxRecDepth 100000
theorem refCount_any {l h d : Int} (r : rightB l h d = true) (w : World) : Calls Try.prog 13 #[.agg #[.int .i64 l, .int .i64 h, .int .i64 d]] w fun e w' => e = .returned (.int .i64 (nI l h d)) ∧ Below w.heap.size w w' := by
  have HN := Lib.hid (show Below w.heap.size w (w.alloc (.cells #[.int .i64 l, .int .i64 h, .int .i64 d] 23)) from (Below.refl _ _).alloc (Nat.le_refl _) _)
  have HB := Lib.hid (Below.refl (w.alloc (.cells #[.int .i64 l, .int .i64 h, .int .i64 d] 23)).heap.size (w.alloc (.cells #[.int .i64 l, .int .i64 h, .int .i64 d] 23)))
  obtain ⟨c0, c1, c2⟩ := box3 HB.out
  obtain ⟨a1, a2, a3, a4, a5, a6⟩ := right_of r
  have hn : nI l h d = aI l d h + 1 := by unfold nI cnt aI; omega
  have ha := a_in r (v := h) (by omega) (by omega)
  have hb := n_in r
  have HN1 := Lib.hid hn
  have hp1 : 0 ≤ aI l d h := ha.1
  have hp2 : aI l d h ≤ 67585 := by omega
  have HP := Lib.hid (fun w => place_any r (v := h) (by omega) (by omega) w)
  clear hn ha hb a1 a2 a3 a4 a5 a6
  go_enter Try.func13, Try.ntmps13
  go_wp2_with (go_at_call 32; ((with_reducible refine (HP.out _).mono ?_); rintro e wx ⟨rfl, hb⟩; have HB := Lib.hid (two_stay HB hb); clear hb; clear c0 c1 c2; obtain ⟨c0, c1, c2⟩ := box3 HB.out))
  go_ret
  exact ⟨ret_int HN1.out.symm, HN.out.trans (HB.out.mono (by simp))⟩
theorem refIndex_no {l h d v : Int} (r : rightB l h d = false) (w : World) : Calls Try.prog 15 #[.agg #[.int .i64 l, .int .i64 h, .int .i64 d], .int .i64 v] w fun e w' => e = .returned (.tuple #[.int .i64 0, .int .i64 80]) ∧ Below w.heap.size w w' := by
  have HN := Lib.hid (show Below w.heap.size w (w.alloc (.cells #[.int .i64 l, .int .i64 h, .int .i64 d] 23)) from (Below.refl _ _).alloc (Nat.le_refl _) _)
  have HB := Lib.hid (Below.refl (w.alloc (.cells #[.int .i64 l, .int .i64 h, .int .i64 d] 23)).heap.size (w.alloc (.cells #[.int .i64 l, .int .i64 h, .int .i64 d] 23)))
  obtain ⟨c0, c1, c2⟩ := box3 HB.out
  have HR := Lib.hid r
  clear r
  go_enter Try.func15, Try.ntmps15
  go_wp2_with (go_at_call 10; ((with_reducible refine (right_any l h d _).mono ?_); rw [HR.out]; rintro e wx ⟨rfl, hb⟩; have HB := Lib.hid (two_stay HB hb); clear hb; clear c0 c1 c2; obtain ⟨c0, c1, c2⟩ := box3 HB.out))
  go_ret2
  exact ⟨rfl, HN.out.trans (HB.out.mono (by simp))⟩
theorem refIndex_out1 {l h d v : Int} (r : rightB l h d = true) (hv : v < 0) (w : World) : Calls Try.prog 15 #[.agg #[.int .i64 l, .int .i64 h, .int .i64 d], .int .i64 v] w fun e w' => e = .returned (.tuple #[.int .i64 0, .int .i64 2]) ∧ Below w.heap.size w w' := by
  have HN := Lib.hid (show Below w.heap.size w (w.alloc (.cells #[.int .i64 l, .int .i64 h, .int .i64 d] 23)) from (Below.refl _ _).alloc (Nat.le_refl _) _)
  have HB := Lib.hid (Below.refl (w.alloc (.cells #[.int .i64 l, .int .i64 h, .int .i64 d] 23)).heap.size (w.alloc (.cells #[.int .i64 l, .int .i64 h, .int .i64 d] 23)))
  obtain ⟨c0, c1, c2⟩ := box3 HB.out
  have HR := Lib.hid r
  clear r
  go_enter Try.func15, Try.ntmps15
  go_wp2_with (go_at_call 10; ((with_reducible refine (right_any l h d _).mono ?_); rw [HR.out]; rintro e wx ⟨rfl, hb⟩; have HB := Lib.hid (two_stay HB hb); clear hb; clear c0 c1 c2; obtain ⟨c0, c1, c2⟩ := box3 HB.out))
  go_ret2
  exact ⟨rfl, HN.out.trans (HB.out.mono (by simp))⟩
theorem refIndex_out2 {l h d v : Int} (r : rightB l h d = true) (hv0 : 0 ≤ v) (hv : h < v) (w : World) : Calls Try.prog 15 #[.agg #[.int .i64 l, .int .i64 h, .int .i64 d], .int .i64 v] w fun e w' => e = .returned (.tuple #[.int .i64 0, .int .i64 2]) ∧ Below w.heap.size w w' := by
  have HN := Lib.hid (show Below w.heap.size w (w.alloc (.cells #[.int .i64 l, .int .i64 h, .int .i64 d] 23)) from (Below.refl _ _).alloc (Nat.le_refl _) _)
  have HB := Lib.hid (Below.refl (w.alloc (.cells #[.int .i64 l, .int .i64 h, .int .i64 d] 23)).heap.size (w.alloc (.cells #[.int .i64 l, .int .i64 h, .int .i64 d] 23)))
  obtain ⟨c0, c1, c2⟩ := box3 HB.out
  have HR := Lib.hid r
  clear r
  go_enter Try.func15, Try.ntmps15
  go_wp2_with (go_at_call 10; ((with_reducible refine (right_any l h d _).mono ?_); rw [HR.out]; rintro e wx ⟨rfl, hb⟩; have HB := Lib.hid (two_stay HB hb); clear hb; clear c0 c1 c2; obtain ⟨c0, c1, c2⟩ := box3 HB.out))
  go_ret2
  exact ⟨rfl, HN.out.trans (HB.out.mono (by simp))⟩
theorem refIndex_yes {l h d v : Int} (r : rightB l h d = true) (v0 : 0 ≤ v) (v1 : v ≤ h) (w : World) : Calls Try.prog 15 #[.agg #[.int .i64 l, .int .i64 h, .int .i64 d], .int .i64 v] w fun e w' => e = .returned (.tuple #[.int .i64 (aI l d v), .int .i64 0]) ∧ Below w.heap.size w w' := by
  have HN := Lib.hid (show Below w.heap.size w (w.alloc (.cells #[.int .i64 l, .int .i64 h, .int .i64 d] 23)) from (Below.refl _ _).alloc (Nat.le_refl _) _)
  have HB := Lib.hid (Below.refl (w.alloc (.cells #[.int .i64 l, .int .i64 h, .int .i64 d] 23)).heap.size (w.alloc (.cells #[.int .i64 l, .int .i64 h, .int .i64 d] 23)))
  obtain ⟨c0, c1, c2⟩ := box3 HB.out
  have HR := Lib.hid r
  have HP := Lib.hid (fun w => place_any r v0 v1 w)
  clear r
  go_enter Try.func15, Try.ntmps15
  go_wp2_with (first
    | (go_at_call 10; ((with_reducible refine (right_any l h d _).mono ?_); rw [HR.out]; rintro e wx ⟨rfl, hb⟩; have HB := Lib.hid (two_stay HB hb); clear hb; clear c0 c1 c2; obtain ⟨c0, c1, c2⟩ := box3 HB.out))
    | (go_at_call 32; ((with_reducible refine (HP.out _).mono ?_); rintro e wx ⟨rfl, hb⟩; have HB := Lib.hid (two_stay HB hb); clear hb; clear c0 c1 c2; obtain ⟨c0, c1, c2⟩ := box3 HB.out)))
  go_ret2
  exact ⟨rfl, HN.out.trans (HB.out.mono (by simp))⟩
theorem refBounds_no {l h d i : Int} (r : rightB l h d = false) (w : World) : Calls Try.prog 17 #[.agg #[.int .i64 l, .int .i64 h, .int .i64 d], .int .i64 i] w fun e w' => e = .returned (.tuple #[.int .i64 0, .int .i64 0, .int .i64 80]) ∧ Below w.heap.size w w' := by
  have HN := Lib.hid (show Below w.heap.size w (w.alloc (.cells #[.int .i64 l, .int .i64 h, .int .i64 d] 23)) from (Below.refl _ _).alloc (Nat.le_refl _) _)
  have HB := Lib.hid (Below.refl (w.alloc (.cells #[.int .i64 l, .int .i64 h, .int .i64 d] 23)).heap.size (w.alloc (.cells #[.int .i64 l, .int .i64 h, .int .i64 d] 23)))
  obtain ⟨c0, c1, c2⟩ := box3 HB.out
  have HR := Lib.hid r
  clear r
  go_enter Try.func17, Try.ntmps17
  go_wp2_with (go_at_call 10; ((with_reducible refine (right_any l h d _).mono ?_); rw [HR.out]; rintro e wx ⟨rfl, hb⟩; have HB := Lib.hid (two_stay HB hb); clear hb; clear c0 c1 c2; obtain ⟨c0, c1, c2⟩ := box3 HB.out))
  go_ret3
  exact ⟨rfl, HN.out.trans (HB.out.mono (by simp))⟩
theorem refBounds_out1 {l h d i : Int} (r : rightB l h d = true) (hi : i < 0) (w : World) : Calls Try.prog 17 #[.agg #[.int .i64 l, .int .i64 h, .int .i64 d], .int .i64 i] w fun e w' => e = .returned (.tuple #[.int .i64 0, .int .i64 0, .int .i64 2]) ∧ Below w.heap.size w w' := by
  have HN := Lib.hid (show Below w.heap.size w (w.alloc (.cells #[.int .i64 l, .int .i64 h, .int .i64 d] 23)) from (Below.refl _ _).alloc (Nat.le_refl _) _)
  have HB := Lib.hid (Below.refl (w.alloc (.cells #[.int .i64 l, .int .i64 h, .int .i64 d] 23)).heap.size (w.alloc (.cells #[.int .i64 l, .int .i64 h, .int .i64 d] 23)))
  obtain ⟨c0, c1, c2⟩ := box3 HB.out
  have HR := Lib.hid r
  clear r
  go_enter Try.func17, Try.ntmps17
  go_wp2_with (first
    | (go_at_call 10; ((with_reducible refine (right_any l h d _).mono ?_); rw [HR.out]; rintro e wx ⟨rfl, hb⟩; have HB := Lib.hid (two_stay HB hb); clear hb; clear c0 c1 c2; obtain ⟨c0, c1, c2⟩ := box3 HB.out))
    | (go_at_call 13; ((with_reducible refine (refCount_any HR.out _).mono ?_); rintro e wx ⟨rfl, hb⟩; have HB := Lib.hid (two_stay HB hb); clear hb; clear c0 c1 c2; obtain ⟨c0, c1, c2⟩ := box3 HB.out)))
  go_ret3
  exact ⟨rfl, HN.out.trans (HB.out.mono (by simp))⟩
theorem refBounds_out2 {l h d i : Int} (r : rightB l h d = true) (hi0 : 0 ≤ i) (hi : nI l h d ≤ i) (w : World) : Calls Try.prog 17 #[.agg #[.int .i64 l, .int .i64 h, .int .i64 d], .int .i64 i] w fun e w' => e = .returned (.tuple #[.int .i64 0, .int .i64 0, .int .i64 2]) ∧ Below w.heap.size w w' := by
  have HN := Lib.hid (show Below w.heap.size w (w.alloc (.cells #[.int .i64 l, .int .i64 h, .int .i64 d] 23)) from (Below.refl _ _).alloc (Nat.le_refl _) _)
  have HB := Lib.hid (Below.refl (w.alloc (.cells #[.int .i64 l, .int .i64 h, .int .i64 d] 23)).heap.size (w.alloc (.cells #[.int .i64 l, .int .i64 h, .int .i64 d] 23)))
  obtain ⟨c0, c1, c2⟩ := box3 HB.out
  have HR := Lib.hid r
  clear r
  go_enter Try.func17, Try.ntmps17
  go_wp2_with (first
    | (go_at_call 10; ((with_reducible refine (right_any l h d _).mono ?_); rw [HR.out]; rintro e wx ⟨rfl, hb⟩; have HB := Lib.hid (two_stay HB hb); clear hb; clear c0 c1 c2; obtain ⟨c0, c1, c2⟩ := box3 HB.out))
    | (go_at_call 13; ((with_reducible refine (refCount_any HR.out _).mono ?_); rintro e wx ⟨rfl, hb⟩; have HB := Lib.hid (two_stay HB hb); clear hb; clear c0 c1 c2; obtain ⟨c0, c1, c2⟩ := box3 HB.out)))
  go_ret3
  exact ⟨rfl, HN.out.trans (HB.out.mono (by simp))⟩
/-- the state of the loop of widths -/
def WAt (e D : Nat) (s13 s14 : Value) : Prop := ∃ j : Nat, s13 = .int .i64 ((2 ^ (e + j) : Nat) : Int) ∧ s14 = .int .i64 (j : Int) ∧ j ≤ D
theorem width_lt {e D j : Nat} (hj : j < D) (hW : ((2 ^ (e + D) : Nat) : Int) ≤ 4611687117939015680) : (2 ^ (e + (j + 1)) : Nat) = 2 * 2 ^ (e + j) ∧ ((2 ^ (e + j) : Nat) : Int) ≤ 2305843558969507840 ∧ 1 ≤ ((2 ^ (e + j) : Nat) : Int) := by
  have h1 : (2 ^ (e + (j + 1)) : Nat) = 2 * 2 ^ (e + j) := by rw [← Nat.add_assoc, Nat.pow_succ, Nat.mul_comm]
  have h2 : 2 ^ (e + (j + 1)) ≤ 2 ^ (e + D) := Nat.pow_le_pow_right (by omega) (by omega)
  have h3 := Nat.two_pow_pos (e + j)
  omega
theorem bmath1 {l : Int} {i : Nat} : ((i : Int) < 32 → loI l 1 i = i * uI l ∧ hiI l 1 i = i * uI l + uI l - 1) ∧ (32 ≤ (i : Int) → ((i : Int) - 32) / 16 + 1 = SC.dOf 4 i ∧ ((i : Int) - 32) % 16 + 16 = SC.pOf 4 i ∧ loI l 1 i = (SC.pOf 4 i : Int) * ((2 ^ (eOf l + SC.dOf 4 i) : Nat) : Int) ∧ hiI l 1 i = (SC.pOf 4 i : Int) * ((2 ^ (eOf l + SC.dOf 4 i) : Nat) : Int) + ((2 ^ (eOf l + SC.dOf 4 i) : Nat) : Int) - 1) := by
  have hlo : loI l 1 i = (SC.pOf 4 i : Int) * ((2 ^ (eOf l + SC.dOf 4 i) : Nat) : Int) := by
    unfold loI SC.low; rw [Int.toNat_natCast, Nat.add_comm]; exact Int.natCast_mul _ _
  have hhi : hiI l 1 i = (SC.pOf 4 i : Int) * ((2 ^ (eOf l + SC.dOf 4 i) : Nat) : Int) + ((2 ^ (eOf l + SC.dOf 4 i) : Nat) : Int) - 1 := by
    unfold hiI SC.next; rw [Int.toNat_natCast, Nat.add_comm (eOf l)]
    show (((SC.pOf 4 i + 1) * 2 ^ (SC.dOf 4 i + eOf l) : Nat) : Int) - 1 = _
    rw [Nat.add_mul]; simp
  constructor
  · intro h1
    have e1 : SC.dOf 4 i = 0 := by unfold SC.dOf; omega
    have e2 : SC.pOf 4 i = i := by unfold SC.pOf; rw [e1]; omega
    rw [hlo, hhi, e1, e2]; exact ⟨rfl, rfl⟩
  · intro h1
    refine ⟨?_, ?_, hlo, hhi⟩
    · unfold SC.dOf; omega
    · unfold SC.pOf SC.dOf; omega
set_option maxHeartbeats 2000000 in
theorem refBounds1 {l h : Int} {i : Nat} (r : rightB l h 1 = true) (hi : (i : Int) < nI l h 1) (w : World) : Calls Try.prog 17 #[.agg #[.int .i64 l, .int .i64 h, .int .i64 1], .int .i64 i] w fun e w' => e = .returned (.tuple #[.int .i64 (loI l 1 i), .int .i64 (hiI l 1 i), .int .i64 0]) ∧ Below w.heap.size w w' := by
  have HN := Lib.hid (show Below w.heap.size w (w.alloc (.cells #[.int .i64 l, .int .i64 h, .int .i64 1] 23)) from (Below.refl _ _).alloc (Nat.le_refl _) _)
  have HB := Lib.hid (Below.refl (w.alloc (.cells #[.int .i64 l, .int .i64 h, .int .i64 1] 23)).heap.size (w.alloc (.cells #[.int .i64 l, .int .i64 h, .int .i64 1] 23)))
  obtain ⟨c0, c1, c2⟩ := box3 HB.out
  have HR := Lib.hid r
  obtain ⟨a1, a2, a3, a4, a5, a6⟩ := right_of r
  have hn := n_in r
  obtain ⟨g0, g1, g2, g3⟩ := lo_hi r (i := (i : Int)) (by omega) hi
  obtain ⟨m1, m2⟩ := bmath1 (l := l) (i := i)
  have HU := Lib.hid (fun w => unit_any (h := h) (d := 1) a1 a2 w)
  have hu1 : 1 ≤ uI l := by unfold uI; have := Nat.two_pow_pos (eOf l); omega
  have hu2 : uI l ≤ 1099511627776 := by unfold uI; have := pow40 (e := eOf l) (by have := (eOf_val a1 a2).2; omega); omega
  have hui : uI l = ((2 ^ eOf l : Nat) : Int) := rfl
  have hi2 : decide (nI l h 1 ≤ (i : Int)) = false := decide_eq_false (by omega)
  have hi4 : (i : Int) ≤ 67585 := by omega
  generalize loI l 1 i = lo at *
  generalize hiI l 1 i = hi' at *
  generalize eOf l = ee at *
  clear a1 a2 a3 a4 a5 a6 r hn
  by_cases hs : (i : Int) < 32
  · obtain ⟨k1, k2⟩ := m1 hs
    clear m1 m2
    have hd : decide (i < 32) = true := decide_eq_true (by omega)
    have hw1 : wrap64 ((i : Int) * uI l) = lo := by rw [← k1]; exact wrap64_in (by omega)
    have k3 : lo + uI l - 1 = hi' := by rw [k1]; exact k2.symm
    have HW1 := Lib.hid hw1
    have HK3 := Lib.hid k3
    clear hui k1 k2 k3 hw1
    generalize uI l = u at *
    go_enter Try.func17, Try.ntmps17
    go_upto_region 10 with (first
    | (go_at_call 10; ((with_reducible refine (right_any l h 1 _).mono ?_); rw [HR.out]; rintro e wx ⟨rfl, hb⟩; have HB := Lib.hid (two_stay HB hb); clear hb; clear c0 c1 c2; obtain ⟨c0, c1, c2⟩ := box3 HB.out))
    | (go_at_call 13; ((with_reducible refine (refCount_any HR.out _).mono ?_); rintro e wx ⟨rfl, hb⟩; have HB := Lib.hid (two_stay HB hb); clear hb; clear c0 c1 c2; obtain ⟨c0, c1, c2⟩ := box3 HB.out))
    | (go_at_call 34; ((with_reducible refine (HU.out _).mono ?_); rintro e wx ⟨rfl, hb⟩; have HB := Lib.hid (two_stay HB hb); clear hb; clear c0 c1 c2; obtain ⟨c0, c1, c2⟩ := box3 HB.out))
    | (go_at_call 35; ((with_reducible refine (sub1 l h _).mono ?_); rintro e wx ⟨rfl, hb⟩; have HB := Lib.hid (two_stay HB hb); clear hb; clear c0 c1 c2; obtain ⟨c0, c1, c2⟩ := box3 HB.out)))
    have hw1 := HW1.out
    go_wp2_with (fail)
    go_ret3
    refine ⟨?_, HN.out.trans (HB.out.mono (by simp))⟩
    show Ending.returned (.tuple #[.int .i64 (wrap64 ((i : Int) * u)), .int .i64 (lo + u - 1), .int .i64 0]) = _
    rw [HW1.out, HK3.out]
  · have hge : 32 ≤ (i : Int) := by omega
    obtain ⟨k1, k2, k3, k4⟩ := m2 hge
    have hd : decide (i < 32) = false := decide_eq_false (by omega)
    clear m1 m2 hs
    have hp1 : 16 ≤ (SC.pOf 4 i : Int) := by
      have := Int.emod_nonneg ((i : Int) - 32) (show (16 : Int) ≠ 0 by omega); omega
    have hW0 := Nat.two_pow_pos (ee + SC.dOf 4 i)
    generalize SC.pOf 4 i = p at *
    generalize SC.dOf 4 i = D at *
    have hWl : ((2 ^ (ee + D) : Nat) : Int) ≤ lo := by
      rw [k3]
      have := Int.mul_le_mul_of_nonneg_right (show (1 : Int) ≤ p by omega) (show 0 ≤ ((2 ^ (ee + D) : Nat) : Int) by omega)
      omega
    have HWL := Lib.hid (show ((2 ^ (ee + D) : Nat) : Int) ≤ 4611687117939015680 by omega)
    have hW1 : 1 ≤ ((2 ^ (ee + D) : Nat) : Int) := by omega
    have HD := Lib.hid k1
    have HPP := Lib.hid k2
    have hD64 : (D : Int) ≤ 67585 := by omega
    have hp2 : (p : Int) ≤ 67585 := by
      have := Int.emod_lt_of_pos ((i : Int) - 32) (show (0 : Int) < 16 by omega); omega
    have hwl : wrap64 ((p : Int) * ((2 ^ (ee + D) : Nat) : Int)) = lo := by rw [← k3]; exact wrap64_in (by omega)
    have hk4 : lo + ((2 ^ (ee + D) : Nat) : Int) - 1 = hi' := by rw [k3]; exact k4.symm
    have HWP := Lib.hid hwl
    have HK4 := Lib.hid hk4
    have HU0 := Lib.hid hui
    clear k1 k2 k3 k4 hW0 hwl hk4 hui
    go_enter Try.func17, Try.ntmps17
    go_upto_region 12 with (first
    | (go_at_call 10; ((with_reducible refine (right_any l h 1 _).mono ?_); rw [HR.out]; rintro e wx ⟨rfl, hb⟩; have HB := Lib.hid (two_stay HB hb); clear hb; clear c0 c1 c2; obtain ⟨c0, c1, c2⟩ := box3 HB.out))
    | (go_at_call 13; ((with_reducible refine (refCount_any HR.out _).mono ?_); rintro e wx ⟨rfl, hb⟩; have HB := Lib.hid (two_stay HB hb); clear hb; clear c0 c1 c2; obtain ⟨c0, c1, c2⟩ := box3 HB.out))
    | (go_at_call 34; ((with_reducible refine (HU.out _).mono ?_); rintro e wx ⟨rfl, hb⟩; have HB := Lib.hid (two_stay HB hb); clear hb; clear c0 c1 c2; obtain ⟨c0, c1, c2⟩ := box3 HB.out))
    | (go_at_call 35; ((with_reducible refine (sub1 l h _).mono ?_); rintro e wx ⟨rfl, hb⟩; have HB := Lib.hid (two_stay HB hb); clear hb; clear c0 c1 c2; obtain ⟨c0, c1, c2⟩ := box3 HB.out)))
    rw [HD.out]
    go_upto_region 13 with (fail)
    rw [HPP.out]
    go_wp2_with (fail)
    rw [HU0.out]
    go_loop [13, 14] (fun s13 s14 => WAt ee D s13 s14) (fun _ s14 => (D - intOf s14).toNat)
    case atStart => exact ⟨0, rfl, rfl, Nat.zero_le _⟩
    case round =>
      obtain ⟨j, rfl, rfl, hj⟩ := hrel
      have hj2 : (j : Int) ≤ 67585 := by omega
      by_cases hlt : (j : Int) < D
      · obtain ⟨x1, x2, x3⟩ := width_lt (e := ee) (j := j) (D := D) (by omega) HWL.out
        have HX1 := Lib.hid x1
        clear x1
        generalize hqe : ((2 ^ (ee + j) : Nat) : Int) = q at *
        have HQ := Lib.hid hqe
        clear hqe
        go_wp2_with (fail)
        go_round
        case rel =>
          have h1 := HX1.out
          have h2 := HQ.out
          exact ⟨j + 1, by congr 1; omega, by go_num, by omega⟩
        case measure => simp [intOf]; omega
      · obtain rfl : j = D := by omega
        have hlt2 : ¬ (j : Int) < j := by omega
        clear hlt hj
        generalize hqe : ((2 ^ (ee + j) : Nat) : Int) = q at *
        go_wp2_with (fail)
        go_ret3
        refine ⟨?_, HN.out.trans (HB.out.mono (by simp))⟩
        show Ending.returned (.tuple #[.int .i64 (wrap64 ((p : Int) * q)), .int .i64 (wrap64 (wrap64 (wrap64 ((p : Int) * q) + q) - 1)), .int .i64 0]) = _
        rw [HWP.out, wrap64_in (n := lo + q) (by omega), wrap64_in (by omega), HK4.out]
theorem bmath2 {l : Int} {i : Nat} : ((i : Int) < 256 → loI l 2 i = i * uI l ∧ hiI l 2 i = i * uI l + uI l - 1) ∧ (256 ≤ (i : Int) → ((i : Int) - 256) / 128 + 1 = SC.dOf 7 i ∧ ((i : Int) - 256) % 128 + 128 = SC.pOf 7 i ∧ loI l 2 i = (SC.pOf 7 i : Int) * ((2 ^ (eOf l + SC.dOf 7 i) : Nat) : Int) ∧ hiI l 2 i = (SC.pOf 7 i : Int) * ((2 ^ (eOf l + SC.dOf 7 i) : Nat) : Int) + ((2 ^ (eOf l + SC.dOf 7 i) : Nat) : Int) - 1) := by
  have hlo : loI l 2 i = (SC.pOf 7 i : Int) * ((2 ^ (eOf l + SC.dOf 7 i) : Nat) : Int) := by
    unfold loI SC.low; rw [Int.toNat_natCast, Nat.add_comm]; exact Int.natCast_mul _ _
  have hhi : hiI l 2 i = (SC.pOf 7 i : Int) * ((2 ^ (eOf l + SC.dOf 7 i) : Nat) : Int) + ((2 ^ (eOf l + SC.dOf 7 i) : Nat) : Int) - 1 := by
    unfold hiI SC.next; rw [Int.toNat_natCast, Nat.add_comm (eOf l)]
    show (((SC.pOf 7 i + 1) * 2 ^ (SC.dOf 7 i + eOf l) : Nat) : Int) - 1 = _
    rw [Nat.add_mul]; simp
  constructor
  · intro h1
    have e1 : SC.dOf 7 i = 0 := by unfold SC.dOf; omega
    have e2 : SC.pOf 7 i = i := by unfold SC.pOf; rw [e1]; omega
    rw [hlo, hhi, e1, e2]; exact ⟨rfl, rfl⟩
  · intro h1
    refine ⟨?_, ?_, hlo, hhi⟩
    · unfold SC.dOf; omega
    · unfold SC.pOf SC.dOf; omega
set_option maxHeartbeats 2000000 in
theorem refBounds2 {l h : Int} {i : Nat} (r : rightB l h 2 = true) (hi : (i : Int) < nI l h 2) (w : World) : Calls Try.prog 17 #[.agg #[.int .i64 l, .int .i64 h, .int .i64 2], .int .i64 i] w fun e w' => e = .returned (.tuple #[.int .i64 (loI l 2 i), .int .i64 (hiI l 2 i), .int .i64 0]) ∧ Below w.heap.size w w' := by
  have HN := Lib.hid (show Below w.heap.size w (w.alloc (.cells #[.int .i64 l, .int .i64 h, .int .i64 2] 23)) from (Below.refl _ _).alloc (Nat.le_refl _) _)
  have HB := Lib.hid (Below.refl (w.alloc (.cells #[.int .i64 l, .int .i64 h, .int .i64 2] 23)).heap.size (w.alloc (.cells #[.int .i64 l, .int .i64 h, .int .i64 2] 23)))
  obtain ⟨c0, c1, c2⟩ := box3 HB.out
  have HR := Lib.hid r
  obtain ⟨a1, a2, a3, a4, a5, a6⟩ := right_of r
  have hn := n_in r
  obtain ⟨g0, g1, g2, g3⟩ := lo_hi r (i := (i : Int)) (by omega) hi
  obtain ⟨m1, m2⟩ := bmath2 (l := l) (i := i)
  have HU := Lib.hid (fun w => unit_any (h := h) (d := 2) a1 a2 w)
  have hu1 : 1 ≤ uI l := by unfold uI; have := Nat.two_pow_pos (eOf l); omega
  have hu2 : uI l ≤ 1099511627776 := by unfold uI; have := pow40 (e := eOf l) (by have := (eOf_val a1 a2).2; omega); omega
  have hui : uI l = ((2 ^ eOf l : Nat) : Int) := rfl
  have hi2 : decide (nI l h 2 ≤ (i : Int)) = false := decide_eq_false (by omega)
  have hi4 : (i : Int) ≤ 67585 := by omega
  generalize loI l 2 i = lo at *
  generalize hiI l 2 i = hi' at *
  generalize eOf l = ee at *
  clear a1 a2 a3 a4 a5 a6 r hn
  by_cases hs : (i : Int) < 256
  · obtain ⟨k1, k2⟩ := m1 hs
    clear m1 m2
    have hd : decide (i < 256) = true := decide_eq_true (by omega)
    have hw1 : wrap64 ((i : Int) * uI l) = lo := by rw [← k1]; exact wrap64_in (by omega)
    have k3 : lo + uI l - 1 = hi' := by rw [k1]; exact k2.symm
    have HW1 := Lib.hid hw1
    have HK3 := Lib.hid k3
    clear hui k1 k2 k3 hw1
    generalize uI l = u at *
    go_enter Try.func17, Try.ntmps17
    go_upto_region 10 with (first
    | (go_at_call 10; ((with_reducible refine (right_any l h 2 _).mono ?_); rw [HR.out]; rintro e wx ⟨rfl, hb⟩; have HB := Lib.hid (two_stay HB hb); clear hb; clear c0 c1 c2; obtain ⟨c0, c1, c2⟩ := box3 HB.out))
    | (go_at_call 13; ((with_reducible refine (refCount_any HR.out _).mono ?_); rintro e wx ⟨rfl, hb⟩; have HB := Lib.hid (two_stay HB hb); clear hb; clear c0 c1 c2; obtain ⟨c0, c1, c2⟩ := box3 HB.out))
    | (go_at_call 34; ((with_reducible refine (HU.out _).mono ?_); rintro e wx ⟨rfl, hb⟩; have HB := Lib.hid (two_stay HB hb); clear hb; clear c0 c1 c2; obtain ⟨c0, c1, c2⟩ := box3 HB.out))
    | (go_at_call 35; ((with_reducible refine (sub2 l h _).mono ?_); rintro e wx ⟨rfl, hb⟩; have HB := Lib.hid (two_stay HB hb); clear hb; clear c0 c1 c2; obtain ⟨c0, c1, c2⟩ := box3 HB.out)))
    have hw1 := HW1.out
    go_wp2_with (fail)
    go_ret3
    refine ⟨?_, HN.out.trans (HB.out.mono (by simp))⟩
    show Ending.returned (.tuple #[.int .i64 (wrap64 ((i : Int) * u)), .int .i64 (lo + u - 1), .int .i64 0]) = _
    rw [HW1.out, HK3.out]
  · have hge : 256 ≤ (i : Int) := by omega
    obtain ⟨k1, k2, k3, k4⟩ := m2 hge
    have hd : decide (i < 256) = false := decide_eq_false (by omega)
    clear m1 m2 hs
    have hp1 : 128 ≤ (SC.pOf 7 i : Int) := by
      have := Int.emod_nonneg ((i : Int) - 256) (show (128 : Int) ≠ 0 by omega); omega
    have hW0 := Nat.two_pow_pos (ee + SC.dOf 7 i)
    generalize SC.pOf 7 i = p at *
    generalize SC.dOf 7 i = D at *
    have hWl : ((2 ^ (ee + D) : Nat) : Int) ≤ lo := by
      rw [k3]
      have := Int.mul_le_mul_of_nonneg_right (show (1 : Int) ≤ p by omega) (show 0 ≤ ((2 ^ (ee + D) : Nat) : Int) by omega)
      omega
    have HWL := Lib.hid (show ((2 ^ (ee + D) : Nat) : Int) ≤ 4611687117939015680 by omega)
    have hW1 : 1 ≤ ((2 ^ (ee + D) : Nat) : Int) := by omega
    have HD := Lib.hid k1
    have HPP := Lib.hid k2
    have hD64 : (D : Int) ≤ 67585 := by omega
    have hp2 : (p : Int) ≤ 67585 := by
      have := Int.emod_lt_of_pos ((i : Int) - 256) (show (0 : Int) < 128 by omega); omega
    have hwl : wrap64 ((p : Int) * ((2 ^ (ee + D) : Nat) : Int)) = lo := by rw [← k3]; exact wrap64_in (by omega)
    have hk4 : lo + ((2 ^ (ee + D) : Nat) : Int) - 1 = hi' := by rw [k3]; exact k4.symm
    have HWP := Lib.hid hwl
    have HK4 := Lib.hid hk4
    have HU0 := Lib.hid hui
    clear k1 k2 k3 k4 hW0 hwl hk4 hui
    go_enter Try.func17, Try.ntmps17
    go_upto_region 12 with (first
    | (go_at_call 10; ((with_reducible refine (right_any l h 2 _).mono ?_); rw [HR.out]; rintro e wx ⟨rfl, hb⟩; have HB := Lib.hid (two_stay HB hb); clear hb; clear c0 c1 c2; obtain ⟨c0, c1, c2⟩ := box3 HB.out))
    | (go_at_call 13; ((with_reducible refine (refCount_any HR.out _).mono ?_); rintro e wx ⟨rfl, hb⟩; have HB := Lib.hid (two_stay HB hb); clear hb; clear c0 c1 c2; obtain ⟨c0, c1, c2⟩ := box3 HB.out))
    | (go_at_call 34; ((with_reducible refine (HU.out _).mono ?_); rintro e wx ⟨rfl, hb⟩; have HB := Lib.hid (two_stay HB hb); clear hb; clear c0 c1 c2; obtain ⟨c0, c1, c2⟩ := box3 HB.out))
    | (go_at_call 35; ((with_reducible refine (sub2 l h _).mono ?_); rintro e wx ⟨rfl, hb⟩; have HB := Lib.hid (two_stay HB hb); clear hb; clear c0 c1 c2; obtain ⟨c0, c1, c2⟩ := box3 HB.out)))
    rw [HD.out]
    go_upto_region 13 with (fail)
    rw [HPP.out]
    go_wp2_with (fail)
    rw [HU0.out]
    go_loop [13, 14] (fun s13 s14 => WAt ee D s13 s14) (fun _ s14 => (D - intOf s14).toNat)
    case atStart => exact ⟨0, rfl, rfl, Nat.zero_le _⟩
    case round =>
      obtain ⟨j, rfl, rfl, hj⟩ := hrel
      have hj2 : (j : Int) ≤ 67585 := by omega
      by_cases hlt : (j : Int) < D
      · obtain ⟨x1, x2, x3⟩ := width_lt (e := ee) (j := j) (D := D) (by omega) HWL.out
        have HX1 := Lib.hid x1
        clear x1
        generalize hqe : ((2 ^ (ee + j) : Nat) : Int) = q at *
        have HQ := Lib.hid hqe
        clear hqe
        go_wp2_with (fail)
        go_round
        case rel =>
          have h1 := HX1.out
          have h2 := HQ.out
          exact ⟨j + 1, by congr 1; omega, by go_num, by omega⟩
        case measure => simp [intOf]; omega
      · obtain rfl : j = D := by omega
        have hlt2 : ¬ (j : Int) < j := by omega
        clear hlt hj
        generalize hqe : ((2 ^ (ee + j) : Nat) : Int) = q at *
        go_wp2_with (fail)
        go_ret3
        refine ⟨?_, HN.out.trans (HB.out.mono (by simp))⟩
        show Ending.returned (.tuple #[.int .i64 (wrap64 ((p : Int) * q)), .int .i64 (wrap64 (wrap64 (wrap64 ((p : Int) * q) + q) - 1)), .int .i64 0]) = _
        rw [HWP.out, wrap64_in (n := lo + q) (by omega), wrap64_in (by omega), HK4.out]
theorem bmath3 {l : Int} {i : Nat} : ((i : Int) < 2048 → loI l 3 i = i * uI l ∧ hiI l 3 i = i * uI l + uI l - 1) ∧ (2048 ≤ (i : Int) → ((i : Int) - 2048) / 1024 + 1 = SC.dOf 10 i ∧ ((i : Int) - 2048) % 1024 + 1024 = SC.pOf 10 i ∧ loI l 3 i = (SC.pOf 10 i : Int) * ((2 ^ (eOf l + SC.dOf 10 i) : Nat) : Int) ∧ hiI l 3 i = (SC.pOf 10 i : Int) * ((2 ^ (eOf l + SC.dOf 10 i) : Nat) : Int) + ((2 ^ (eOf l + SC.dOf 10 i) : Nat) : Int) - 1) := by
  have hlo : loI l 3 i = (SC.pOf 10 i : Int) * ((2 ^ (eOf l + SC.dOf 10 i) : Nat) : Int) := by
    unfold loI SC.low; rw [Int.toNat_natCast, Nat.add_comm]; exact Int.natCast_mul _ _
  have hhi : hiI l 3 i = (SC.pOf 10 i : Int) * ((2 ^ (eOf l + SC.dOf 10 i) : Nat) : Int) + ((2 ^ (eOf l + SC.dOf 10 i) : Nat) : Int) - 1 := by
    unfold hiI SC.next; rw [Int.toNat_natCast, Nat.add_comm (eOf l)]
    show (((SC.pOf 10 i + 1) * 2 ^ (SC.dOf 10 i + eOf l) : Nat) : Int) - 1 = _
    rw [Nat.add_mul]; simp
  constructor
  · intro h1
    have e1 : SC.dOf 10 i = 0 := by unfold SC.dOf; omega
    have e2 : SC.pOf 10 i = i := by unfold SC.pOf; rw [e1]; omega
    rw [hlo, hhi, e1, e2]; exact ⟨rfl, rfl⟩
  · intro h1
    refine ⟨?_, ?_, hlo, hhi⟩
    · unfold SC.dOf; omega
    · unfold SC.pOf SC.dOf; omega
set_option maxHeartbeats 2000000 in
theorem refBounds3 {l h : Int} {i : Nat} (r : rightB l h 3 = true) (hi : (i : Int) < nI l h 3) (w : World) : Calls Try.prog 17 #[.agg #[.int .i64 l, .int .i64 h, .int .i64 3], .int .i64 i] w fun e w' => e = .returned (.tuple #[.int .i64 (loI l 3 i), .int .i64 (hiI l 3 i), .int .i64 0]) ∧ Below w.heap.size w w' := by
  have HN := Lib.hid (show Below w.heap.size w (w.alloc (.cells #[.int .i64 l, .int .i64 h, .int .i64 3] 23)) from (Below.refl _ _).alloc (Nat.le_refl _) _)
  have HB := Lib.hid (Below.refl (w.alloc (.cells #[.int .i64 l, .int .i64 h, .int .i64 3] 23)).heap.size (w.alloc (.cells #[.int .i64 l, .int .i64 h, .int .i64 3] 23)))
  obtain ⟨c0, c1, c2⟩ := box3 HB.out
  have HR := Lib.hid r
  obtain ⟨a1, a2, a3, a4, a5, a6⟩ := right_of r
  have hn := n_in r
  obtain ⟨g0, g1, g2, g3⟩ := lo_hi r (i := (i : Int)) (by omega) hi
  obtain ⟨m1, m2⟩ := bmath3 (l := l) (i := i)
  have HU := Lib.hid (fun w => unit_any (h := h) (d := 3) a1 a2 w)
  have hu1 : 1 ≤ uI l := by unfold uI; have := Nat.two_pow_pos (eOf l); omega
  have hu2 : uI l ≤ 1099511627776 := by unfold uI; have := pow40 (e := eOf l) (by have := (eOf_val a1 a2).2; omega); omega
  have hui : uI l = ((2 ^ eOf l : Nat) : Int) := rfl
  have hi2 : decide (nI l h 3 ≤ (i : Int)) = false := decide_eq_false (by omega)
  have hi4 : (i : Int) ≤ 67585 := by omega
  generalize loI l 3 i = lo at *
  generalize hiI l 3 i = hi' at *
  generalize eOf l = ee at *
  clear a1 a2 a3 a4 a5 a6 r hn
  by_cases hs : (i : Int) < 2048
  · obtain ⟨k1, k2⟩ := m1 hs
    clear m1 m2
    have hd : decide (i < 2048) = true := decide_eq_true (by omega)
    have hw1 : wrap64 ((i : Int) * uI l) = lo := by rw [← k1]; exact wrap64_in (by omega)
    have k3 : lo + uI l - 1 = hi' := by rw [k1]; exact k2.symm
    have HW1 := Lib.hid hw1
    have HK3 := Lib.hid k3
    clear hui k1 k2 k3 hw1
    generalize uI l = u at *
    go_enter Try.func17, Try.ntmps17
    go_upto_region 10 with (first
    | (go_at_call 10; ((with_reducible refine (right_any l h 3 _).mono ?_); rw [HR.out]; rintro e wx ⟨rfl, hb⟩; have HB := Lib.hid (two_stay HB hb); clear hb; clear c0 c1 c2; obtain ⟨c0, c1, c2⟩ := box3 HB.out))
    | (go_at_call 13; ((with_reducible refine (refCount_any HR.out _).mono ?_); rintro e wx ⟨rfl, hb⟩; have HB := Lib.hid (two_stay HB hb); clear hb; clear c0 c1 c2; obtain ⟨c0, c1, c2⟩ := box3 HB.out))
    | (go_at_call 34; ((with_reducible refine (HU.out _).mono ?_); rintro e wx ⟨rfl, hb⟩; have HB := Lib.hid (two_stay HB hb); clear hb; clear c0 c1 c2; obtain ⟨c0, c1, c2⟩ := box3 HB.out))
    | (go_at_call 35; ((with_reducible refine (sub3 l h _).mono ?_); rintro e wx ⟨rfl, hb⟩; have HB := Lib.hid (two_stay HB hb); clear hb; clear c0 c1 c2; obtain ⟨c0, c1, c2⟩ := box3 HB.out)))
    have hw1 := HW1.out
    go_wp2_with (fail)
    go_ret3
    refine ⟨?_, HN.out.trans (HB.out.mono (by simp))⟩
    show Ending.returned (.tuple #[.int .i64 (wrap64 ((i : Int) * u)), .int .i64 (lo + u - 1), .int .i64 0]) = _
    rw [HW1.out, HK3.out]
  · have hge : 2048 ≤ (i : Int) := by omega
    obtain ⟨k1, k2, k3, k4⟩ := m2 hge
    have hd : decide (i < 2048) = false := decide_eq_false (by omega)
    clear m1 m2 hs
    have hp1 : 1024 ≤ (SC.pOf 10 i : Int) := by
      have := Int.emod_nonneg ((i : Int) - 2048) (show (1024 : Int) ≠ 0 by omega); omega
    have hW0 := Nat.two_pow_pos (ee + SC.dOf 10 i)
    generalize SC.pOf 10 i = p at *
    generalize SC.dOf 10 i = D at *
    have hWl : ((2 ^ (ee + D) : Nat) : Int) ≤ lo := by
      rw [k3]
      have := Int.mul_le_mul_of_nonneg_right (show (1 : Int) ≤ p by omega) (show 0 ≤ ((2 ^ (ee + D) : Nat) : Int) by omega)
      omega
    have HWL := Lib.hid (show ((2 ^ (ee + D) : Nat) : Int) ≤ 4611687117939015680 by omega)
    have hW1 : 1 ≤ ((2 ^ (ee + D) : Nat) : Int) := by omega
    have HD := Lib.hid k1
    have HPP := Lib.hid k2
    have hD64 : (D : Int) ≤ 67585 := by omega
    have hp2 : (p : Int) ≤ 67585 := by
      have := Int.emod_lt_of_pos ((i : Int) - 2048) (show (0 : Int) < 1024 by omega); omega
    have hwl : wrap64 ((p : Int) * ((2 ^ (ee + D) : Nat) : Int)) = lo := by rw [← k3]; exact wrap64_in (by omega)
    have hk4 : lo + ((2 ^ (ee + D) : Nat) : Int) - 1 = hi' := by rw [k3]; exact k4.symm
    have HWP := Lib.hid hwl
    have HK4 := Lib.hid hk4
    have HU0 := Lib.hid hui
    clear k1 k2 k3 k4 hW0 hwl hk4 hui
    go_enter Try.func17, Try.ntmps17
    go_upto_region 12 with (first
    | (go_at_call 10; ((with_reducible refine (right_any l h 3 _).mono ?_); rw [HR.out]; rintro e wx ⟨rfl, hb⟩; have HB := Lib.hid (two_stay HB hb); clear hb; clear c0 c1 c2; obtain ⟨c0, c1, c2⟩ := box3 HB.out))
    | (go_at_call 13; ((with_reducible refine (refCount_any HR.out _).mono ?_); rintro e wx ⟨rfl, hb⟩; have HB := Lib.hid (two_stay HB hb); clear hb; clear c0 c1 c2; obtain ⟨c0, c1, c2⟩ := box3 HB.out))
    | (go_at_call 34; ((with_reducible refine (HU.out _).mono ?_); rintro e wx ⟨rfl, hb⟩; have HB := Lib.hid (two_stay HB hb); clear hb; clear c0 c1 c2; obtain ⟨c0, c1, c2⟩ := box3 HB.out))
    | (go_at_call 35; ((with_reducible refine (sub3 l h _).mono ?_); rintro e wx ⟨rfl, hb⟩; have HB := Lib.hid (two_stay HB hb); clear hb; clear c0 c1 c2; obtain ⟨c0, c1, c2⟩ := box3 HB.out)))
    rw [HD.out]
    go_upto_region 13 with (fail)
    rw [HPP.out]
    go_wp2_with (fail)
    rw [HU0.out]
    go_loop [13, 14] (fun s13 s14 => WAt ee D s13 s14) (fun _ s14 => (D - intOf s14).toNat)
    case atStart => exact ⟨0, rfl, rfl, Nat.zero_le _⟩
    case round =>
      obtain ⟨j, rfl, rfl, hj⟩ := hrel
      have hj2 : (j : Int) ≤ 67585 := by omega
      by_cases hlt : (j : Int) < D
      · obtain ⟨x1, x2, x3⟩ := width_lt (e := ee) (j := j) (D := D) (by omega) HWL.out
        have HX1 := Lib.hid x1
        clear x1
        generalize hqe : ((2 ^ (ee + j) : Nat) : Int) = q at *
        have HQ := Lib.hid hqe
        clear hqe
        go_wp2_with (fail)
        go_round
        case rel =>
          have h1 := HX1.out
          have h2 := HQ.out
          exact ⟨j + 1, by congr 1; omega, by go_num, by omega⟩
        case measure => simp [intOf]; omega
      · obtain rfl : j = D := by omega
        have hlt2 : ¬ (j : Int) < j := by omega
        clear hlt hj
        generalize hqe : ((2 ^ (ee + j) : Nat) : Int) = q at *
        go_wp2_with (fail)
        go_ret3
        refine ⟨?_, HN.out.trans (HB.out.mono (by simp))⟩
        show Ending.returned (.tuple #[.int .i64 (wrap64 ((p : Int) * q)), .int .i64 (wrap64 (wrap64 (wrap64 ((p : Int) * q) + q) - 1)), .int .i64 0]) = _
        rw [HWP.out, wrap64_in (n := lo + q) (by omega), wrap64_in (by omega), HK4.out]
theorem refBounds_yes {l h d i : Int} (r : rightB l h d = true) (i0 : 0 ≤ i) (i1 : i < nI l h d) (w : World) : Calls Try.prog 17 #[.agg #[.int .i64 l, .int .i64 h, .int .i64 d], .int .i64 i] w fun e w' => e = .returned (.tuple #[.int .i64 (loI l d i), .int .i64 (hiI l d i), .int .i64 0]) ∧ Below w.heap.size w w' := by
  obtain ⟨a1, a2, a3, a4, a5, a6⟩ := right_of r
  obtain ⟨n, rfl⟩ := Int.eq_ofNat_of_zero_le i0
  obtain rfl | rfl | rfl : d = 1 ∨ d = 2 ∨ d = 3 := by omega
  · exact refBounds1 r i1 w
  · exact refBounds2 r i1 w
  · exact refBounds3 r i1 w
end Go.Proofs.Ytaeffkgnfbomdaa
