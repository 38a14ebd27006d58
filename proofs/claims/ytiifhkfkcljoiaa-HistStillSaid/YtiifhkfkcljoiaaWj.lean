/- THE WALKS of the document's own answers about buckets of whole numbers. -/
import Derived.Test.YtiifhkfkcljoiaaWl
namespace Go.Proofs.Ytiifhkfkcljoiaa.Sc
open Go.RowKit
set_option maxRecDepth 100000
theorem box3 {w wk : World} {l h d : Int} (H : Below (w.alloc (.cells #[.int .i64 l, .int .i64 h, .int .i64 d] 23)).heap.size (w.alloc (.cells #[.int .i64 l, .int .i64 h, .int .i64 d] 23)) wk) : wk.cell? ⟨w.heap.size, 0, none⟩ = some (.int .i64 l) ∧ wk.cell? ⟨w.heap.size, 1, none⟩ = some (.int .i64 h) ∧ wk.cell? ⟨w.heap.size, 2, none⟩ = some (.int .i64 d) :=
  ⟨(H.cell (p := ⟨w.heap.size, 0, none⟩) (by simp)).trans (by simp [go_sem]), (H.cell (p := ⟨w.heap.size, 1, none⟩) (by simp)).trans (by simp [go_sem]), (H.cell (p := ⟨w.heap.size, 2, none⟩) (by simp)).trans (by simp [go_sem])⟩
theorem eOf_of {l : Int} {k : Nat} (h1 : 1 ≤ l) (h2 : l ≤ 1099511627776) (h3 : (2 ^ k : Nat) ≤ l) (h4 : l < 2 * (2 ^ k : Nat)) : eOf l = k := by
  unfold eOf
  have := SC.bl_of (n := l.toNat) (k := k) (by omega) (by rw [Nat.pow_succ]; omega) (by omega)
  omega
def UAt (l : Int) (s8 : Value) : Prop := ∃ k : Nat, s8 = .int .i64 ((2 ^ k : Nat) : Int) ∧ ((2 ^ k : Nat) : Int) ≤ l
theorem right_any (l h d : Int) (w : World) : Calls Try.prog 11 #[.agg #[.int .i64 l, .int .i64 h, .int .i64 d]] w fun e w' => e = .returned (.bool (rightB l h d)) ∧ Below w.heap.size w w' := by
  cases r : rightB l h d with
  | true =>
    obtain ⟨a1, a2, a3, a4, a5, a6⟩ := right_of r
    clear r
    go_enter Try.func11, Try.ntmps11
    go_wp2
    go_ret
    exact ⟨rfl, (Below.refl _ _).alloc (Nat.le_refl _) _⟩
  | false =>
    have a := wrong_of r
    have HA := Lib.hid a
    clear r a
    by_cases b1 : l < 1
    · go_enter Try.func11, Try.ntmps11
      go_wp2
      go_ret
      exact ⟨rfl, (Below.refl _ _).alloc (Nat.le_refl _) _⟩
    have c1 : 1 ≤ l := by omega
    clear b1
    by_cases b2 : 1099511627776 < l
    · go_enter Try.func11, Try.ntmps11
      go_wp2
      go_ret
      exact ⟨rfl, (Below.refl _ _).alloc (Nat.le_refl _) _⟩
    have c2 : l ≤ 1099511627776 := by omega
    clear b2
    by_cases b3 : h < 2 * l
    · go_enter Try.func11, Try.ntmps11
      go_wp2
      go_ret
      exact ⟨rfl, (Below.refl _ _).alloc (Nat.le_refl _) _⟩
    have c3 : 2 * l ≤ h := by omega
    clear b3
    by_cases b4 : 2305843009213693952 < h
    · go_enter Try.func11, Try.ntmps11
      go_wp2
      go_ret
      exact ⟨rfl, (Below.refl _ _).alloc (Nat.le_refl _) _⟩
    have c4 : h ≤ 2305843009213693952 := by omega
    clear b4
    by_cases b5 : d < 1
    · go_enter Try.func11, Try.ntmps11
      go_wp2
      go_ret
      exact ⟨rfl, (Below.refl _ _).alloc (Nat.le_refl _) _⟩
    have c5 : 1 ≤ d := by omega
    clear b5
    have c6 : 3 < d := by have := HA.out; omega
    go_enter Try.func11, Try.ntmps11
    go_wp2
    go_ret
    refine ⟨?_, (Below.refl _ _).alloc (Nat.le_refl _) _⟩
    show Ending.returned (.bool (decide (d ≤ 3))) = _
    rw [decide_eq_false (by omega)]
/-- the unit -/
def uI (l : Int) : Int := ((2 ^ eOf l : Nat) : Int)
theorem unit_any {l h d : Int} (a1 : 1 ≤ l) (a2 : l ≤ 1099511627776) (w : World) : Calls Try.prog 88 #[.agg #[.int .i64 l, .int .i64 h, .int .i64 d]] w fun e w' => e = .returned (.int .i64 (uI l)) ∧ Below w.heap.size w w' := by
  go_enter Try.func88, Try.ntmps88
  go_wp2_with (fail)
  go_loop [3] (fun s3 => UAt l s3) (fun s3 => (l - intOf s3).toNat)
  case atStart => exact ⟨0, rfl, by simpa using a1⟩
  case round =>
    obtain ⟨k, rfl, hk⟩ := hrel
    have hq := Nat.two_pow_pos k
    have HP := Lib.hid (show (2 ^ (k + 1) : Nat) = 2 * 2 ^ k from Nat.pow_succ' )
    have HE := Lib.hid (fun (h : l < 2 * ((2 ^ k : Nat) : Int)) => eOf_of (l := l) (k := k) a1 a2 hk h)
    have hq1 : 1 ≤ ((2 ^ k : Nat) : Int) := by omega
    clear hq
    generalize hqe : ((2 ^ k : Nat) : Int) = q at *
    have HQ := Lib.hid hqe
    clear hqe
    by_cases hlt : 2 * q ≤ l
    · go_wp2_with (fail)
      go_round
      case rel =>
        have h1 := HP.out
        have h2 := HQ.out
        exact ⟨k + 1, by congr 1; omega, by omega⟩
      case measure => simp [intOf]; omega
    · have hlt2 : l < 2 * q := by omega
      have HZ := Lib.hid (HE.out hlt2)
      clear hlt HE
      go_wp2_with (fail)
      go_ret
      exact ⟨ret_int (by unfold uI; rw [HZ.out]; exact HQ.out.symm), (Below.refl _ _).alloc (Nat.le_refl _) _⟩
set_option maxHeartbeats 1000000 in
theorem sub1 (l h : Int) (w : World) : Calls Try.prog 89 #[.agg #[.int .i64 l, .int .i64 h, .int .i64 1]] w fun e w' => e = .returned (.int .i64 32) ∧ Below w.heap.size w w' := by
  go_enter Try.func89, Try.ntmps89
  go_wp2_with (fail)
  refine wp_loop_rounds 2 ?_
  rw [rounds_succ]
  go_wp2_with (fail)
  rw [rounds_succ]
  go_wp2_with (fail)
  refine wp_loop_rounds 6 ?_
  rw [rounds_succ]
  go_wp2_with (fail)
  rw [rounds_succ]
  go_wp2_with (fail)
  rw [rounds_succ]
  go_wp2_with (fail)
  rw [rounds_succ]
  go_wp2_with (fail)
  rw [rounds_succ]
  go_wp2_with (fail)
  rw [rounds_succ]
  go_wp2_with (fail)
  go_ret
  exact ⟨rfl, (Below.refl _ _).alloc (Nat.le_refl _) _⟩
set_option maxHeartbeats 1000000 in
theorem sub2 (l h : Int) (w : World) : Calls Try.prog 89 #[.agg #[.int .i64 l, .int .i64 h, .int .i64 2]] w fun e w' => e = .returned (.int .i64 256) ∧ Below w.heap.size w w' := by
  go_enter Try.func89, Try.ntmps89
  go_wp2_with (fail)
  refine wp_loop_rounds 3 ?_
  rw [rounds_succ]
  go_wp2_with (fail)
  rw [rounds_succ]
  go_wp2_with (fail)
  rw [rounds_succ]
  go_wp2_with (fail)
  refine wp_loop_rounds 9 ?_
  rw [rounds_succ]
  go_wp2_with (fail)
  rw [rounds_succ]
  go_wp2_with (fail)
  rw [rounds_succ]
  go_wp2_with (fail)
  rw [rounds_succ]
  go_wp2_with (fail)
  rw [rounds_succ]
  go_wp2_with (fail)
  rw [rounds_succ]
  go_wp2_with (fail)
  rw [rounds_succ]
  go_wp2_with (fail)
  rw [rounds_succ]
  go_wp2_with (fail)
  rw [rounds_succ]
  go_wp2_with (fail)
  go_ret
  exact ⟨rfl, (Below.refl _ _).alloc (Nat.le_refl _) _⟩
set_option maxHeartbeats 1000000 in
theorem sub3 (l h : Int) (w : World) : Calls Try.prog 89 #[.agg #[.int .i64 l, .int .i64 h, .int .i64 3]] w fun e w' => e = .returned (.int .i64 2048) ∧ Below w.heap.size w w' := by
  go_enter Try.func89, Try.ntmps89
  go_wp2_with (fail)
  refine wp_loop_rounds 4 ?_
  rw [rounds_succ]
  go_wp2_with (fail)
  rw [rounds_succ]
  go_wp2_with (fail)
  rw [rounds_succ]
  go_wp2_with (fail)
  rw [rounds_succ]
  go_wp2_with (fail)
  refine wp_loop_rounds 12 ?_
  rw [rounds_succ]
  go_wp2_with (fail)
  rw [rounds_succ]
  go_wp2_with (fail)
  rw [rounds_succ]
  go_wp2_with (fail)
  rw [rounds_succ]
  go_wp2_with (fail)
  rw [rounds_succ]
  go_wp2_with (fail)
  rw [rounds_succ]
  go_wp2_with (fail)
  rw [rounds_succ]
  go_wp2_with (fail)
  rw [rounds_succ]
  go_wp2_with (fail)
  rw [rounds_succ]
  go_wp2_with (fail)
  rw [rounds_succ]
  go_wp2_with (fail)
  rw [rounds_succ]
  go_wp2_with (fail)
  rw [rounds_succ]
  go_wp2_with (fail)
  go_ret
  exact ⟨rfl, (Below.refl _ _).alloc (Nat.le_refl _) _⟩
/-- the state of the loop of halvings -/
def PAt (U hh : Nat) (s7 s8 : Value) : Prop := ∃ k : Nat, s7 = .int .i64 (k : Int) ∧ s8 = .int .i64 ((U / 2 ^ k : Nat) : Int) ∧ k ≤ 64 ∧ (k = 0 ∨ 2 ^ hh ≤ U / 2 ^ k)
theorem half_step (U k : Nat) : U / 2 ^ k / 2 = U / 2 ^ (k + 1) := by rw [Nat.pow_succ, Nat.div_div_eq_div_mul]
theorem k_bound {U k : Nat} (hU : U < 2 ^ 64) (h : 1 ≤ U / 2 ^ k) : k < 64 := by
  have := (Nat.le_div_iff_mul_le (Nat.two_pow_pos k)).1 h
  exact (Nat.pow_lt_pow_iff_right (a := 2) (by omega)).1 (by omega)
set_option maxHeartbeats 1000000 in
theorem place1 {l h v : Int} (a1 : 1 ≤ l) (a2 : l ≤ 1099511627776) (v0 : 0 ≤ v) (v1 : v ≤ 2305843009213693952) (w : World) : Calls Try.prog 69 #[.agg #[.int .i64 l, .int .i64 h, .int .i64 1], .int .i64 v] w fun e w' => e = .returned (.int .i64 (SC.idx 4 (eOf l) v.toNat)) ∧ Below w.heap.size w w' := by
  have HN := Lib.hid (show Below w.heap.size w (w.alloc (.cells #[.int .i64 l, .int .i64 h, .int .i64 1] 23)) from (Below.refl _ _).alloc (Nat.le_refl _) _)
  have HB := Lib.hid (Below.refl (w.alloc (.cells #[.int .i64 l, .int .i64 h, .int .i64 1] 23)).heap.size (w.alloc (.cells #[.int .i64 l, .int .i64 h, .int .i64 1] 23)))
  obtain ⟨c0, c1, c2⟩ := box3 HB.out
  have hU1 : v.toNat / 2 ^ eOf l ≤ v.toNat := Nat.div_le_self _ _
  have hvu : v / uI l = ((v.toNat / 2 ^ eOf l : Nat) : Int) := by
    unfold uI; rw [Int.natCast_ediv, Int.toNat_of_nonneg v0]
  have hidx : (SC.idx 4 (eOf l) v.toNat : Int) = (SC.dbl 4 (v.toNat / 2 ^ eOf l) : Int) * 16 + ((v.toNat / 2 ^ eOf l / 2 ^ SC.dbl 4 (v.toNat / 2 ^ eOf l) : Nat) : Int) := by
    unfold SC.idx; simp
  have hU64 : v.toNat / 2 ^ eOf l < 2 ^ 64 := by omega
  have hp1 : 1 ≤ uI l := by unfold uI; have := Nat.two_pow_pos (eOf l); omega
  have HSM := Lib.hid (fun (hs : v.toNat / 2 ^ eOf l < 32) => SC.dbl_small (h := 4) hs hU64)
  have HOF := Lib.hid (fun k (h1 : v.toNat / 2 ^ eOf l / 2 ^ k < 32) (h2 : k = 0 ∨ 16 ≤ v.toNat / 2 ^ eOf l / 2 ^ k) => SC.dbl_of (h := 4) hU64 h1 h2)
  have HU64 := Lib.hid hU64
  have HIDX := Lib.hid hidx
  have hUb : ((v.toNat / 2 ^ eOf l : Nat) : Int) ≤ 2305843009213693952 := by omega
  clear hU1 hidx hU64
  generalize SC.idx 4 (eOf l) v.toNat = X at *
  generalize v.toNat / 2 ^ eOf l = U at *
  have HVU := Lib.hid hvu
  clear hvu
  go_enter Try.func69, Try.ntmps69
  go_upto_region 2 with (first
    | (go_at_call 88; ((with_reducible refine (unit_any a1 a2 _).mono ?_); rintro e wx ⟨rfl, hb⟩; have HB := Lib.hid (two_stay HB hb); clear hb; clear c0 c1 c2; obtain ⟨c0, c1, c2⟩ := box3 HB.out))
    | (go_at_call 89; ((with_reducible refine (sub1 l h _).mono ?_); rintro e wx ⟨rfl, hb⟩; have HB := Lib.hid (two_stay HB hb); clear hb; clear c0 c1 c2; obtain ⟨c0, c1, c2⟩ := box3 HB.out)))
  rw [HVU.out]
  by_cases hlt : (U : Int) < 32
  · have hX : (X : Int) = (U : Int) := by
      rw [HIDX.out, HSM.out (by omega)]; simp
    have HX := Lib.hid hX
    clear hX
    go_wp2_with (first
    | (go_at_call 88; ((with_reducible refine (unit_any a1 a2 _).mono ?_); rintro e wx ⟨rfl, hb⟩; have HB := Lib.hid (two_stay HB hb); clear hb; clear c0 c1 c2; obtain ⟨c0, c1, c2⟩ := box3 HB.out))
    | (go_at_call 89; ((with_reducible refine (sub1 l h _).mono ?_); rintro e wx ⟨rfl, hb⟩; have HB := Lib.hid (two_stay HB hb); clear hb; clear c0 c1 c2; obtain ⟨c0, c1, c2⟩ := box3 HB.out)))
    go_ret
    exact ⟨ret_int HX.out.symm, HN.out.trans (HB.out.mono (by simp))⟩
  · have hge : 32 ≤ (U : Int) := by omega
    have hd : decide ((U : Int) < 32) = false := decide_eq_false hlt
    have hd2 : decide (U < 32) = false := decide_eq_false (by omega)
    clear hlt
    go_wp2_with (first
    | (go_at_call 88; ((with_reducible refine (unit_any a1 a2 _).mono ?_); rintro e wx ⟨rfl, hb⟩; have HB := Lib.hid (two_stay HB hb); clear hb; clear c0 c1 c2; obtain ⟨c0, c1, c2⟩ := box3 HB.out))
    | (go_at_call 89; ((with_reducible refine (sub1 l h _).mono ?_); rintro e wx ⟨rfl, hb⟩; have HB := Lib.hid (two_stay HB hb); clear hb; clear c0 c1 c2; obtain ⟨c0, c1, c2⟩ := box3 HB.out)))
    go_loop [7, 8] (fun s7 s8 => PAt U 4 s7 s8) (fun _ s8 => (intOf s8).toNat)
    case atStart => exact ⟨0, rfl, by simp, by omega, .inl rfl⟩
    case round =>
      obtain ⟨k, rfl, rfl, hk, hk2⟩ := hrel
      have HK2 := Lib.hid hk2
      have hle : U / 2 ^ k ≤ U := Nat.div_le_self _ _
      have HH := Lib.hid (half_step U k)
      have HO := Lib.hid (HOF.out k)
      have HKB := Lib.hid (fun h => k_bound (U := U) (k := k) HU64.out h)
      clear hk2
      obtain ⟨z, hz⟩ : ∃ z, U / 2 ^ k = z := ⟨_, rfl⟩
      rw [hz] at hle
      have hz1 : (z : Int) ≤ 2305843009213693952 := by omega
      have HZ := Lib.hid hz
      rw [hz]
      clear hz hle
      have hk1 : (k : Int) ≤ 64 := by omega
      by_cases hge2 : 32 ≤ (z : Int)
      · have hdz : decide (32 ≤ z) = true := decide_eq_true (by omega)
        go_wp2_with (fail)
        go_round
        case rel =>
          have h1 := HZ.out
          have h2 := HH.out
          have h3 := HKB.out (by omega)
          rw [h1] at h2
          exact ⟨k + 1, by go_num, by rw [← h2]; go_num, by omega, .inr (by rw [← h2]; omega)⟩
        case measure => simp [intOf]; omega
      · have hlt3 : (z : Int) < 32 := by omega
        have hdz : decide (32 ≤ z) = false := decide_eq_false (by omega)
        have hkp : 1 ≤ (k : Int) := by
          have h1 := HZ.out
          rcases Nat.eq_zero_or_pos k with h0 | h0
          · subst h0; simp at h1; omega
          · omega
        have hX : (X : Int) = k * 16 + z := by
          have h1 := HZ.out
          have h2 := HO.out (by omega) (by have := HK2.out; omega)
          rw [HIDX.out, h2, h1]
        have HX := Lib.hid hX
        clear hX hge2
        go_wp2_with (fail)
        go_ret
        exact ⟨ret_int (by rw [HX.out]; omega), HN.out.trans (HB.out.mono (by simp))⟩
set_option maxHeartbeats 1000000 in
theorem place2 {l h v : Int} (a1 : 1 ≤ l) (a2 : l ≤ 1099511627776) (v0 : 0 ≤ v) (v1 : v ≤ 2305843009213693952) (w : World) : Calls Try.prog 69 #[.agg #[.int .i64 l, .int .i64 h, .int .i64 2], .int .i64 v] w fun e w' => e = .returned (.int .i64 (SC.idx 7 (eOf l) v.toNat)) ∧ Below w.heap.size w w' := by
  have HN := Lib.hid (show Below w.heap.size w (w.alloc (.cells #[.int .i64 l, .int .i64 h, .int .i64 2] 23)) from (Below.refl _ _).alloc (Nat.le_refl _) _)
  have HB := Lib.hid (Below.refl (w.alloc (.cells #[.int .i64 l, .int .i64 h, .int .i64 2] 23)).heap.size (w.alloc (.cells #[.int .i64 l, .int .i64 h, .int .i64 2] 23)))
  obtain ⟨c0, c1, c2⟩ := box3 HB.out
  have hU1 : v.toNat / 2 ^ eOf l ≤ v.toNat := Nat.div_le_self _ _
  have hvu : v / uI l = ((v.toNat / 2 ^ eOf l : Nat) : Int) := by
    unfold uI; rw [Int.natCast_ediv, Int.toNat_of_nonneg v0]
  have hidx : (SC.idx 7 (eOf l) v.toNat : Int) = (SC.dbl 7 (v.toNat / 2 ^ eOf l) : Int) * 128 + ((v.toNat / 2 ^ eOf l / 2 ^ SC.dbl 7 (v.toNat / 2 ^ eOf l) : Nat) : Int) := by
    unfold SC.idx; simp
  have hU64 : v.toNat / 2 ^ eOf l < 2 ^ 64 := by omega
  have hp1 : 1 ≤ uI l := by unfold uI; have := Nat.two_pow_pos (eOf l); omega
  have HSM := Lib.hid (fun (hs : v.toNat / 2 ^ eOf l < 256) => SC.dbl_small (h := 7) hs hU64)
  have HOF := Lib.hid (fun k (h1 : v.toNat / 2 ^ eOf l / 2 ^ k < 256) (h2 : k = 0 ∨ 128 ≤ v.toNat / 2 ^ eOf l / 2 ^ k) => SC.dbl_of (h := 7) hU64 h1 h2)
  have HU64 := Lib.hid hU64
  have HIDX := Lib.hid hidx
  have hUb : ((v.toNat / 2 ^ eOf l : Nat) : Int) ≤ 2305843009213693952 := by omega
  clear hU1 hidx hU64
  generalize SC.idx 7 (eOf l) v.toNat = X at *
  generalize v.toNat / 2 ^ eOf l = U at *
  have HVU := Lib.hid hvu
  clear hvu
  go_enter Try.func69, Try.ntmps69
  go_upto_region 2 with (first
    | (go_at_call 88; ((with_reducible refine (unit_any a1 a2 _).mono ?_); rintro e wx ⟨rfl, hb⟩; have HB := Lib.hid (two_stay HB hb); clear hb; clear c0 c1 c2; obtain ⟨c0, c1, c2⟩ := box3 HB.out))
    | (go_at_call 89; ((with_reducible refine (sub2 l h _).mono ?_); rintro e wx ⟨rfl, hb⟩; have HB := Lib.hid (two_stay HB hb); clear hb; clear c0 c1 c2; obtain ⟨c0, c1, c2⟩ := box3 HB.out)))
  rw [HVU.out]
  by_cases hlt : (U : Int) < 256
  · have hX : (X : Int) = (U : Int) := by
      rw [HIDX.out, HSM.out (by omega)]; simp
    have HX := Lib.hid hX
    clear hX
    go_wp2_with (first
    | (go_at_call 88; ((with_reducible refine (unit_any a1 a2 _).mono ?_); rintro e wx ⟨rfl, hb⟩; have HB := Lib.hid (two_stay HB hb); clear hb; clear c0 c1 c2; obtain ⟨c0, c1, c2⟩ := box3 HB.out))
    | (go_at_call 89; ((with_reducible refine (sub2 l h _).mono ?_); rintro e wx ⟨rfl, hb⟩; have HB := Lib.hid (two_stay HB hb); clear hb; clear c0 c1 c2; obtain ⟨c0, c1, c2⟩ := box3 HB.out)))
    go_ret
    exact ⟨ret_int HX.out.symm, HN.out.trans (HB.out.mono (by simp))⟩
  · have hge : 256 ≤ (U : Int) := by omega
    have hd : decide ((U : Int) < 256) = false := decide_eq_false hlt
    have hd2 : decide (U < 256) = false := decide_eq_false (by omega)
    clear hlt
    go_wp2_with (first
    | (go_at_call 88; ((with_reducible refine (unit_any a1 a2 _).mono ?_); rintro e wx ⟨rfl, hb⟩; have HB := Lib.hid (two_stay HB hb); clear hb; clear c0 c1 c2; obtain ⟨c0, c1, c2⟩ := box3 HB.out))
    | (go_at_call 89; ((with_reducible refine (sub2 l h _).mono ?_); rintro e wx ⟨rfl, hb⟩; have HB := Lib.hid (two_stay HB hb); clear hb; clear c0 c1 c2; obtain ⟨c0, c1, c2⟩ := box3 HB.out)))
    go_loop [7, 8] (fun s7 s8 => PAt U 7 s7 s8) (fun _ s8 => (intOf s8).toNat)
    case atStart => exact ⟨0, rfl, by simp, by omega, .inl rfl⟩
    case round =>
      obtain ⟨k, rfl, rfl, hk, hk2⟩ := hrel
      have HK2 := Lib.hid hk2
      have hle : U / 2 ^ k ≤ U := Nat.div_le_self _ _
      have HH := Lib.hid (half_step U k)
      have HO := Lib.hid (HOF.out k)
      have HKB := Lib.hid (fun h => k_bound (U := U) (k := k) HU64.out h)
      clear hk2
      obtain ⟨z, hz⟩ : ∃ z, U / 2 ^ k = z := ⟨_, rfl⟩
      rw [hz] at hle
      have hz1 : (z : Int) ≤ 2305843009213693952 := by omega
      have HZ := Lib.hid hz
      rw [hz]
      clear hz hle
      have hk1 : (k : Int) ≤ 64 := by omega
      by_cases hge2 : 256 ≤ (z : Int)
      · have hdz : decide (256 ≤ z) = true := decide_eq_true (by omega)
        go_wp2_with (fail)
        go_round
        case rel =>
          have h1 := HZ.out
          have h2 := HH.out
          have h3 := HKB.out (by omega)
          rw [h1] at h2
          exact ⟨k + 1, by go_num, by rw [← h2]; go_num, by omega, .inr (by rw [← h2]; omega)⟩
        case measure => simp [intOf]; omega
      · have hlt3 : (z : Int) < 256 := by omega
        have hdz : decide (256 ≤ z) = false := decide_eq_false (by omega)
        have hkp : 1 ≤ (k : Int) := by
          have h1 := HZ.out
          rcases Nat.eq_zero_or_pos k with h0 | h0
          · subst h0; simp at h1; omega
          · omega
        have hX : (X : Int) = k * 128 + z := by
          have h1 := HZ.out
          have h2 := HO.out (by omega) (by have := HK2.out; omega)
          rw [HIDX.out, h2, h1]
        have HX := Lib.hid hX
        clear hX hge2
        go_wp2_with (fail)
        go_ret
        exact ⟨ret_int (by rw [HX.out]; omega), HN.out.trans (HB.out.mono (by simp))⟩
set_option maxHeartbeats 1000000 in
theorem place3 {l h v : Int} (a1 : 1 ≤ l) (a2 : l ≤ 1099511627776) (v0 : 0 ≤ v) (v1 : v ≤ 2305843009213693952) (w : World) : Calls Try.prog 69 #[.agg #[.int .i64 l, .int .i64 h, .int .i64 3], .int .i64 v] w fun e w' => e = .returned (.int .i64 (SC.idx 10 (eOf l) v.toNat)) ∧ Below w.heap.size w w' := by
  have HN := Lib.hid (show Below w.heap.size w (w.alloc (.cells #[.int .i64 l, .int .i64 h, .int .i64 3] 23)) from (Below.refl _ _).alloc (Nat.le_refl _) _)
  have HB := Lib.hid (Below.refl (w.alloc (.cells #[.int .i64 l, .int .i64 h, .int .i64 3] 23)).heap.size (w.alloc (.cells #[.int .i64 l, .int .i64 h, .int .i64 3] 23)))
  obtain ⟨c0, c1, c2⟩ := box3 HB.out
  have hU1 : v.toNat / 2 ^ eOf l ≤ v.toNat := Nat.div_le_self _ _
  have hvu : v / uI l = ((v.toNat / 2 ^ eOf l : Nat) : Int) := by
    unfold uI; rw [Int.natCast_ediv, Int.toNat_of_nonneg v0]
  have hidx : (SC.idx 10 (eOf l) v.toNat : Int) = (SC.dbl 10 (v.toNat / 2 ^ eOf l) : Int) * 1024 + ((v.toNat / 2 ^ eOf l / 2 ^ SC.dbl 10 (v.toNat / 2 ^ eOf l) : Nat) : Int) := by
    unfold SC.idx; simp
  have hU64 : v.toNat / 2 ^ eOf l < 2 ^ 64 := by omega
  have hp1 : 1 ≤ uI l := by unfold uI; have := Nat.two_pow_pos (eOf l); omega
  have HSM := Lib.hid (fun (hs : v.toNat / 2 ^ eOf l < 2048) => SC.dbl_small (h := 10) hs hU64)
  have HOF := Lib.hid (fun k (h1 : v.toNat / 2 ^ eOf l / 2 ^ k < 2048) (h2 : k = 0 ∨ 1024 ≤ v.toNat / 2 ^ eOf l / 2 ^ k) => SC.dbl_of (h := 10) hU64 h1 h2)
  have HU64 := Lib.hid hU64
  have HIDX := Lib.hid hidx
  have hUb : ((v.toNat / 2 ^ eOf l : Nat) : Int) ≤ 2305843009213693952 := by omega
  clear hU1 hidx hU64
  generalize SC.idx 10 (eOf l) v.toNat = X at *
  generalize v.toNat / 2 ^ eOf l = U at *
  have HVU := Lib.hid hvu
  clear hvu
  go_enter Try.func69, Try.ntmps69
  go_upto_region 2 with (first
    | (go_at_call 88; ((with_reducible refine (unit_any a1 a2 _).mono ?_); rintro e wx ⟨rfl, hb⟩; have HB := Lib.hid (two_stay HB hb); clear hb; clear c0 c1 c2; obtain ⟨c0, c1, c2⟩ := box3 HB.out))
    | (go_at_call 89; ((with_reducible refine (sub3 l h _).mono ?_); rintro e wx ⟨rfl, hb⟩; have HB := Lib.hid (two_stay HB hb); clear hb; clear c0 c1 c2; obtain ⟨c0, c1, c2⟩ := box3 HB.out)))
  rw [HVU.out]
  by_cases hlt : (U : Int) < 2048
  · have hX : (X : Int) = (U : Int) := by
      rw [HIDX.out, HSM.out (by omega)]; simp
    have HX := Lib.hid hX
    clear hX
    go_wp2_with (first
    | (go_at_call 88; ((with_reducible refine (unit_any a1 a2 _).mono ?_); rintro e wx ⟨rfl, hb⟩; have HB := Lib.hid (two_stay HB hb); clear hb; clear c0 c1 c2; obtain ⟨c0, c1, c2⟩ := box3 HB.out))
    | (go_at_call 89; ((with_reducible refine (sub3 l h _).mono ?_); rintro e wx ⟨rfl, hb⟩; have HB := Lib.hid (two_stay HB hb); clear hb; clear c0 c1 c2; obtain ⟨c0, c1, c2⟩ := box3 HB.out)))
    go_ret
    exact ⟨ret_int HX.out.symm, HN.out.trans (HB.out.mono (by simp))⟩
  · have hge : 2048 ≤ (U : Int) := by omega
    have hd : decide ((U : Int) < 2048) = false := decide_eq_false hlt
    have hd2 : decide (U < 2048) = false := decide_eq_false (by omega)
    clear hlt
    go_wp2_with (first
    | (go_at_call 88; ((with_reducible refine (unit_any a1 a2 _).mono ?_); rintro e wx ⟨rfl, hb⟩; have HB := Lib.hid (two_stay HB hb); clear hb; clear c0 c1 c2; obtain ⟨c0, c1, c2⟩ := box3 HB.out))
    | (go_at_call 89; ((with_reducible refine (sub3 l h _).mono ?_); rintro e wx ⟨rfl, hb⟩; have HB := Lib.hid (two_stay HB hb); clear hb; clear c0 c1 c2; obtain ⟨c0, c1, c2⟩ := box3 HB.out)))
    go_loop [7, 8] (fun s7 s8 => PAt U 10 s7 s8) (fun _ s8 => (intOf s8).toNat)
    case atStart => exact ⟨0, rfl, by simp, by omega, .inl rfl⟩
    case round =>
      obtain ⟨k, rfl, rfl, hk, hk2⟩ := hrel
      have HK2 := Lib.hid hk2
      have hle : U / 2 ^ k ≤ U := Nat.div_le_self _ _
      have HH := Lib.hid (half_step U k)
      have HO := Lib.hid (HOF.out k)
      have HKB := Lib.hid (fun h => k_bound (U := U) (k := k) HU64.out h)
      clear hk2
      obtain ⟨z, hz⟩ : ∃ z, U / 2 ^ k = z := ⟨_, rfl⟩
      rw [hz] at hle
      have hz1 : (z : Int) ≤ 2305843009213693952 := by omega
      have HZ := Lib.hid hz
      rw [hz]
      clear hz hle
      have hk1 : (k : Int) ≤ 64 := by omega
      by_cases hge2 : 2048 ≤ (z : Int)
      · have hdz : decide (2048 ≤ z) = true := decide_eq_true (by omega)
        go_wp2_with (fail)
        go_round
        case rel =>
          have h1 := HZ.out
          have h2 := HH.out
          have h3 := HKB.out (by omega)
          rw [h1] at h2
          exact ⟨k + 1, by go_num, by rw [← h2]; go_num, by omega, .inr (by rw [← h2]; omega)⟩
        case measure => simp [intOf]; omega
      · have hlt3 : (z : Int) < 2048 := by omega
        have hdz : decide (2048 ≤ z) = false := decide_eq_false (by omega)
        have hkp : 1 ≤ (k : Int) := by
          have h1 := HZ.out
          rcases Nat.eq_zero_or_pos k with h0 | h0
          · subst h0; simp at h1; omega
          · omega
        have hX : (X : Int) = k * 1024 + z := by
          have h1 := HZ.out
          have h2 := HO.out (by omega) (by have := HK2.out; omega)
          rw [HIDX.out, h2, h1]
        have HX := Lib.hid hX
        clear hX hge2
        go_wp2_with (fail)
        go_ret
        exact ⟨ret_int (by rw [HX.out]; omega), HN.out.trans (HB.out.mono (by simp))⟩
theorem place_any {l h d v : Int} (r : rightB l h d = true) (v0 : 0 ≤ v) (v1 : v ≤ h) (w : World) : Calls Try.prog 69 #[.agg #[.int .i64 l, .int .i64 h, .int .i64 d], .int .i64 v] w fun e w' => e = .returned (.int .i64 (aI l d v)) ∧ Below w.heap.size w w' := by
  obtain ⟨a1, a2, a3, a4, a5, a6⟩ := right_of r
  obtain rfl | rfl | rfl : d = 1 ∨ d = 2 ∨ d = 3 := by omega
  · exact place1 a1 a2 v0 (by omega) w
  · exact place2 a1 a2 v0 (by omega) w
  · exact place3 a1 a2 v0 (by omega) w
end Go.Proofs.Ytiifhkfkcljoiaa.Sc
