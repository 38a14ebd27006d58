/- THE WALKS of the document's ceil and bits. -/
import Derived.Test.YtaeffkgnfbomdaaWn
namespace Go.Proofs.Ytaeffkgnfbomdaa
open Go.RowKit
set_option maxRecDepth 100000
theorem half_step' (U k : Nat) : U / 2 ^ k / 2 = U / 2 ^ (k + 1) := by rw [Nat.pow_succ, Nat.div_div_eq_div_mul]
theorem cmath0 {a : Int} (h1 : -1000000 ≤ a) (h2 : a ≤ 1000000) : wrap64 (a.tdiv 1 * 1) = a.tdiv 1 * 1 ∧ (a.tdiv 1 * 1 < a → wrap64 (a.tdiv 1 + 1) = FL.coN 0 a) ∧ (a ≤ a.tdiv 1 * 1 → a.tdiv 1 = FL.coN 0 a) := by
  obtain ⟨c1, c2⟩ := FL.coN_ceil 0 a
  rw [show (2 : Int) ^ 0 = 1 from rfl] at c1 c2
  rcases Int.lt_or_le a 0 with h | h
  · have e : a.tdiv 1 = -((-a) / 1) := by
      rw [← Int.tdiv_eq_ediv_of_nonneg (show 0 ≤ -a by omega), Int.neg_tdiv, Int.neg_neg]
    rw [e]
    refine ⟨wrap64_in (by omega), fun h3 => ?_, fun h3 => ?_⟩
    · rw [wrap64_in (by omega)]; omega
    · omega
  · rw [Int.tdiv_eq_ediv_of_nonneg h]
    refine ⟨wrap64_in (by omega), fun h3 => ?_, fun h3 => ?_⟩
    · rw [wrap64_in (by omega)]; omega
    · omega
theorem ceil0 (a : Int) (h1 : -1000000 ≤ a) (h2 : a ≤ 1000000) (w : World) : Calls Try.prog 54 #[.int .i64 a, .int .i64 1] w fun e w' => e = .returned (.int .i64 (FL.coN 0 a)) ∧ w = w' := by
  go_enter Try.func54, Try.ntmps54
  go_wp2_with (fail)
  all_goals
    go_ret
    exact ⟨rfl, rfl⟩
theorem cmath1 {a : Int} (h1 : -1000000 ≤ a) (h2 : a ≤ 1000000) : wrap64 (a.tdiv 2 * 2) = a.tdiv 2 * 2 ∧ (a.tdiv 2 * 2 < a → wrap64 (a.tdiv 2 + 1) = FL.coN 1 a) ∧ (a ≤ a.tdiv 2 * 2 → a.tdiv 2 = FL.coN 1 a) := by
  obtain ⟨c1, c2⟩ := FL.coN_ceil 1 a
  rw [show (2 : Int) ^ 1 = 2 from rfl] at c1 c2
  rcases Int.lt_or_le a 0 with h | h
  · have e : a.tdiv 2 = -((-a) / 2) := by
      rw [← Int.tdiv_eq_ediv_of_nonneg (show 0 ≤ -a by omega), Int.neg_tdiv, Int.neg_neg]
    rw [e]
    refine ⟨wrap64_in (by omega), fun h3 => ?_, fun h3 => ?_⟩
    · rw [wrap64_in (by omega)]; omega
    · omega
  · rw [Int.tdiv_eq_ediv_of_nonneg h]
    refine ⟨wrap64_in (by omega), fun h3 => ?_, fun h3 => ?_⟩
    · rw [wrap64_in (by omega)]; omega
    · omega
theorem ceil1 (a : Int) (h1 : -1000000 ≤ a) (h2 : a ≤ 1000000) (w : World) : Calls Try.prog 54 #[.int .i64 a, .int .i64 2] w fun e w' => e = .returned (.int .i64 (FL.coN 1 a)) ∧ w = w' := by
  obtain ⟨m0, m1, m2⟩ := cmath1 h1 h2
  have M1 := Lib.hid m1
  have M2 := Lib.hid m2
  clear m1 m2
  by_cases hlt : a.tdiv 2 * 2 < a
  · go_enter Try.func54, Try.ntmps54
    go_wp2_with (fail)
    go_ret
    exact ⟨ret_int (M1.out hlt), rfl⟩
  · have hge : a ≤ a.tdiv 2 * 2 := by omega
    clear hlt
    go_enter Try.func54, Try.ntmps54
    go_wp2_with (fail)
    go_ret
    exact ⟨ret_int (M2.out hge), rfl⟩
theorem cmath2 {a : Int} (h1 : -1000000 ≤ a) (h2 : a ≤ 1000000) : wrap64 (a.tdiv 4 * 4) = a.tdiv 4 * 4 ∧ (a.tdiv 4 * 4 < a → wrap64 (a.tdiv 4 + 1) = FL.coN 2 a) ∧ (a ≤ a.tdiv 4 * 4 → a.tdiv 4 = FL.coN 2 a) := by
  obtain ⟨c1, c2⟩ := FL.coN_ceil 2 a
  rw [show (2 : Int) ^ 2 = 4 from rfl] at c1 c2
  rcases Int.lt_or_le a 0 with h | h
  · have e : a.tdiv 4 = -((-a) / 4) := by
      rw [← Int.tdiv_eq_ediv_of_nonneg (show 0 ≤ -a by omega), Int.neg_tdiv, Int.neg_neg]
    rw [e]
    refine ⟨wrap64_in (by omega), fun h3 => ?_, fun h3 => ?_⟩
    · rw [wrap64_in (by omega)]; omega
    · omega
  · rw [Int.tdiv_eq_ediv_of_nonneg h]
    refine ⟨wrap64_in (by omega), fun h3 => ?_, fun h3 => ?_⟩
    · rw [wrap64_in (by omega)]; omega
    · omega
theorem ceil2 (a : Int) (h1 : -1000000 ≤ a) (h2 : a ≤ 1000000) (w : World) : Calls Try.prog 54 #[.int .i64 a, .int .i64 4] w fun e w' => e = .returned (.int .i64 (FL.coN 2 a)) ∧ w = w' := by
  obtain ⟨m0, m1, m2⟩ := cmath2 h1 h2
  have M1 := Lib.hid m1
  have M2 := Lib.hid m2
  clear m1 m2
  by_cases hlt : a.tdiv 4 * 4 < a
  · go_enter Try.func54, Try.ntmps54
    go_wp2_with (fail)
    go_ret
    exact ⟨ret_int (M1.out hlt), rfl⟩
  · have hge : a ≤ a.tdiv 4 * 4 := by omega
    clear hlt
    go_enter Try.func54, Try.ntmps54
    go_wp2_with (fail)
    go_ret
    exact ⟨ret_int (M2.out hge), rfl⟩
theorem cmath3 {a : Int} (h1 : -1000000 ≤ a) (h2 : a ≤ 1000000) : wrap64 (a.tdiv 8 * 8) = a.tdiv 8 * 8 ∧ (a.tdiv 8 * 8 < a → wrap64 (a.tdiv 8 + 1) = FL.coN 3 a) ∧ (a ≤ a.tdiv 8 * 8 → a.tdiv 8 = FL.coN 3 a) := by
  obtain ⟨c1, c2⟩ := FL.coN_ceil 3 a
  rw [show (2 : Int) ^ 3 = 8 from rfl] at c1 c2
  rcases Int.lt_or_le a 0 with h | h
  · have e : a.tdiv 8 = -((-a) / 8) := by
      rw [← Int.tdiv_eq_ediv_of_nonneg (show 0 ≤ -a by omega), Int.neg_tdiv, Int.neg_neg]
    rw [e]
    refine ⟨wrap64_in (by omega), fun h3 => ?_, fun h3 => ?_⟩
    · rw [wrap64_in (by omega)]; omega
    · omega
  · rw [Int.tdiv_eq_ediv_of_nonneg h]
    refine ⟨wrap64_in (by omega), fun h3 => ?_, fun h3 => ?_⟩
    · rw [wrap64_in (by omega)]; omega
    · omega
theorem ceil3 (a : Int) (h1 : -1000000 ≤ a) (h2 : a ≤ 1000000) (w : World) : Calls Try.prog 54 #[.int .i64 a, .int .i64 8] w fun e w' => e = .returned (.int .i64 (FL.coN 3 a)) ∧ w = w' := by
  obtain ⟨m0, m1, m2⟩ := cmath3 h1 h2
  have M1 := Lib.hid m1
  have M2 := Lib.hid m2
  clear m1 m2
  by_cases hlt : a.tdiv 8 * 8 < a
  · go_enter Try.func54, Try.ntmps54
    go_wp2_with (fail)
    go_ret
    exact ⟨ret_int (M1.out hlt), rfl⟩
  · have hge : a ≤ a.tdiv 8 * 8 := by omega
    clear hlt
    go_enter Try.func54, Try.ntmps54
    go_wp2_with (fail)
    go_ret
    exact ⟨ret_int (M2.out hge), rfl⟩
theorem cmath4 {a : Int} (h1 : -1000000 ≤ a) (h2 : a ≤ 1000000) : wrap64 (a.tdiv 16 * 16) = a.tdiv 16 * 16 ∧ (a.tdiv 16 * 16 < a → wrap64 (a.tdiv 16 + 1) = FL.coN 4 a) ∧ (a ≤ a.tdiv 16 * 16 → a.tdiv 16 = FL.coN 4 a) := by
  obtain ⟨c1, c2⟩ := FL.coN_ceil 4 a
  rw [show (2 : Int) ^ 4 = 16 from rfl] at c1 c2
  rcases Int.lt_or_le a 0 with h | h
  · have e : a.tdiv 16 = -((-a) / 16) := by
      rw [← Int.tdiv_eq_ediv_of_nonneg (show 0 ≤ -a by omega), Int.neg_tdiv, Int.neg_neg]
    rw [e]
    refine ⟨wrap64_in (by omega), fun h3 => ?_, fun h3 => ?_⟩
    · rw [wrap64_in (by omega)]; omega
    · omega
  · rw [Int.tdiv_eq_ediv_of_nonneg h]
    refine ⟨wrap64_in (by omega), fun h3 => ?_, fun h3 => ?_⟩
    · rw [wrap64_in (by omega)]; omega
    · omega
theorem ceil4 (a : Int) (h1 : -1000000 ≤ a) (h2 : a ≤ 1000000) (w : World) : Calls Try.prog 54 #[.int .i64 a, .int .i64 16] w fun e w' => e = .returned (.int .i64 (FL.coN 4 a)) ∧ w = w' := by
  obtain ⟨m0, m1, m2⟩ := cmath4 h1 h2
  have M1 := Lib.hid m1
  have M2 := Lib.hid m2
  clear m1 m2
  by_cases hlt : a.tdiv 16 * 16 < a
  · go_enter Try.func54, Try.ntmps54
    go_wp2_with (fail)
    go_ret
    exact ⟨ret_int (M1.out hlt), rfl⟩
  · have hge : a ≤ a.tdiv 16 * 16 := by omega
    clear hlt
    go_enter Try.func54, Try.ntmps54
    go_wp2_with (fail)
    go_ret
    exact ⟨ret_int (M2.out hge), rfl⟩
/-- the first k words of 32 bits as a number -/
def V (xs : List Nat) : Nat → Nat
  | 0 => 0
  | k + 1 => V xs k + xs.getD k 0 * 2 ^ (32 * k)
def Small (xs : List Nat) : Prop := ∀ x ∈ xs, x < 4294967296
theorem getD_small {xs : List Nat} (h : Small xs) (k : Nat) : xs.getD k 0 < 4294967296 := by
  rw [List.getD_eq_getElem?_getD]
  cases hk : xs[k]? with
  | none => simp
  | some x => exact h x (List.mem_of_getElem? hk)
theorem V_lt {xs : List Nat} (h : Small xs) (k : Nat) : V xs k < 2 ^ (32 * k) := by
  induction k with
  | zero => simp [V]
  | succ k ih =>
    have h1 := getD_small h k
    rw [V, show 32 * (k + 1) = 32 + 32 * k by omega, Nat.pow_add]
    have h2 : (xs.getD k 0 + 1) * 2 ^ (32 * k) ≤ 2 ^ 32 * 2 ^ (32 * k) := Nat.mul_le_mul_right _ (by omega)
    rw [Nat.add_mul] at h2
    omega
/-- a row of words in memory -/
def Words (w : World) (b : Nat) (xs : List Nat) : Prop := ∀ j, j < xs.length → w.cell? ⟨b, j, none⟩ = some (.int .u32 ((xs.getD j 0 : Nat) : Int))
def BitsOut (n : Nat) (e : Ending) : Prop := ∃ r : Nat, FL.IsBits n r ∧ e = .returned (.int .i64 (r : Int))
def BitAt (xs : List Nat) (n : Nat) (s3 : Value) : Prop := ∃ p : Nat, s3 = .int .i64 ((p : Int) - 1) ∧ p ≤ n ∧ V xs n = V xs p
def HalfAt (x : Nat) (s4 s5 : Value) : Prop := ∃ q y : Nat, s4 = .int .i64 (q : Int) ∧ s5 = .int .u32 (y : Int) ∧ y = x / 2 ^ q ∧ q ≤ 32 ∧ (q = 0 ∨ 1 ≤ x / 2 ^ (q - 1))
theorem half_done {x q : Nat} (h : 0 = x / 2 ^ q) (h2 : q = 0 ∨ 1 ≤ x / 2 ^ (q - 1)) : FL.IsBits x q := by
  rcases h2 with rfl | h2
  · exact .inl ⟨by simpa using h.symm, rfl⟩
  · have hlt : x < 2 ^ q := by
      rcases Nat.lt_or_ge x (2 ^ q) with h3 | h3
      · exact h3
      · have := (Nat.le_div_iff_mul_le (k := 2 ^ q) (Nat.two_pow_pos q) (x := 1) (y := x)).2 (by omega)
        omega
    have hge := (Nat.le_div_iff_mul_le (Nat.two_pow_pos (q - 1))).1 h2
    rcases Nat.eq_zero_or_pos q with h0 | h0
    · subst h0; simp at hlt hge; omega
    · exact .inr ⟨h0, by omega, hlt⟩
theorem q_le {x q : Nat} (hx : x < 4294967296) (h : 1 ≤ x / 2 ^ q) : q < 32 := by
  have := (Nat.le_div_iff_mul_le (Nat.two_pow_pos q)).1 h
  exact (Nat.pow_lt_pow_iff_right (a := 2) (by omega)).1 (Nat.lt_of_le_of_lt (by omega) (show x < 2 ^ 32 by omega))
theorem bits_found {xs : List Nat} {n p q : Nat} (hs : Small xs) (hV : V xs n = V xs (p + 1)) (hq : FL.IsBits (xs.getD p 0) q) (h0 : 0 < q) : FL.IsBits (V xs n) (32 * p + q) := by
  rcases hq with ⟨_, h1⟩ | ⟨a, b, c⟩
  · omega
  · have hl := V_lt hs p
    rw [hV, V]
    refine .inr ⟨by omega, ?_, ?_⟩
    · rw [show 32 * p + q - 1 = (q - 1) + 32 * p by omega, Nat.pow_add]
      have := Nat.mul_le_mul_right (2 ^ (32 * p)) b
      omega
    · rw [show 32 * p + q = q + 32 * p by omega, Nat.pow_add]
      have := Nat.mul_le_mul_right (2 ^ (32 * p)) (show xs.getD p 0 + 1 ≤ 2 ^ q by omega)
      rw [Nat.add_mul] at this
      omega
theorem bits_none {xs : List Nat} {n p q : Nat} (hV : V xs n = V xs (p + 1)) (hq : FL.IsBits (xs.getD p 0) q) (h0 : q = 0) : V xs n = V xs p := by
  rcases hq with ⟨h1, _⟩ | ⟨a, _, _⟩
  · rw [hV, V, h1]; simp
  · omega
theorem bits_any {b n : Nat} {xs : List Nat} (hl : xs.length = n) (w : World) (hc : Words w b xs) (hs : Small xs) (hn : n ≤ 600) :
    Calls Try.prog 53 #[.slice (some ⟨b, 0, none⟩) n n] w fun e w' => BitsOut (V xs n) e ∧ w = w' := by
  have hn1 : (n : Int) ≤ 600 := by omega
  have HL := Lib.hid hl
  have HC := Lib.hid hc
  have HS := Lib.hid hs
  clear hl hc hs hn
  go_enter Try.func53, Try.ntmps53
  go_wp2_with (fail)
  go_loop [3] (fun s3 => BitAt xs n s3) (fun s3 => (intOf s3 + 1).toNat)
  case atStart => exact ⟨n, rfl, Nat.le_refl _, rfl⟩
  case round =>
    obtain ⟨p, rfl, hp, hV⟩ := hrel
    rcases Nat.eq_zero_or_pos p with h0 | h0
    · subst h0
      have HV := Lib.hid hV
      clear hV hp
      have e1 : ((0 : Nat) : Int) - 1 = -1 := rfl
      rw [e1]
      clear e1
      go_wp2_with (fail)
      go_ret
      exact ⟨⟨0, by rw [HV.out]; exact .inl ⟨rfl, rfl⟩, rfl⟩, rfl⟩
    · obtain ⟨i, rfl⟩ : ∃ i, p = i + 1 := ⟨p - 1, by omega⟩
      have e1 : ((i + 1 : Nat) : Int) - 1 = (i : Int) := by omega
      rw [e1]
      have hin : (i : Int) < n := by omega
      have hci := HC.out i (by rw [HL.out]; omega)
      have hxs := getD_small HS.out i
      have HV := Lib.hid hV
      have HF := Lib.hid (fun q (h : FL.IsBits (xs.getD i 0) q) (h0 : 0 < q) => bits_found HS.out hV h h0)
      have HN := Lib.hid (fun q (h : FL.IsBits (xs.getD i 0) q) (h0 : q = 0) => bits_none hV h h0)
      clear hV h0 e1
      generalize xs.getD i 0 = x at *
      have hxi : (x : Int) < 4294967296 := by omega
      have HXS := Lib.hid hxs
      clear hxs
      have hd : decide (n ≤ i) = false := decide_eq_false (by omega)
      have hd2 : decide (i < n) = true := decide_eq_true (by omega)
      clear hp
      go_wp2_with (fail)
      go_loop [4, 5] (fun s4 s5 => HalfAt x s4 s5) (fun _ s5 => (intOf s5).toNat)
      case atStart => exact ⟨0, x, rfl, rfl, by simp, by omega, .inl rfl⟩
      case round =>
        obtain ⟨q, y, rfl, rfl, hy, hq, hq2⟩ := hrel
        have hyx : y ≤ x := by rw [hy]; exact Nat.div_le_self _ _
        have hyb : (y : Int) < 4294967296 := by omega
        have HY := Lib.hid hy
        have HQ2 := Lib.hid hq2
        have hq1 : (q : Int) ≤ 32 := by omega
        clear hy hq2 hyx
        rcases Nat.eq_zero_or_pos y with h0 | h0
        · subst h0
          have HB := Lib.hid (half_done HY.out HQ2.out)
          rcases Nat.eq_zero_or_pos q with hq0 | hq0
          · have HV2 := Lib.hid (HN.out q HB.out hq0)
            subst hq0
            go_wp2_with (fail)
            go_round
            case rel => exact ⟨i, rfl, by omega, HV2.out⟩
            case measure => simp [intOf]
          · have HR := Lib.hid (HF.out q HB.out hq0)
            have hqp : decide (0 < q) = true := decide_eq_true hq0
            clear hq0
            go_wp2_with (fail)
            go_ret
            exact ⟨⟨32 * i + q, HR.out, ret_int (by omega)⟩, rfl⟩
        · have hyp : decide (0 < y) = true := decide_eq_true h0
          have h0i : 0 < (y : Int) := by omega
          clear h0
          go_wp2_with (fail)
          go_round
          case rel =>
            have hx1 : 1 ≤ x / 2 ^ q := by rw [← HY.out]; omega
            have := q_le HXS.out hx1
            exact ⟨q + 1, y / 2, by go_num, by go_num, by rw [HY.out, half_step'], by omega, .inr (by simpa using hx1)⟩
          case measure => simp [intOf]; omega
end Go.Proofs.Ytaeffkgnfbomdaa
