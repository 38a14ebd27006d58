/- THE LAW 'ScaleExact', whatever comes in. -/
import Derived.Test.YtaeffkgnfbomdaaLm
import Derived.Test.YtaeffkgnfbomdaaLn
namespace Go.Proofs.Ytaeffkgnfbomdaa
open Go.RowKit
theorem abs_of (b c : Nat) (h : b < 18446744073709551616) (hc : b % 9223372036854775808 = c) : Hid (∀ w, Calls Try.prog 28 #[.float .f64 b] w fun e w' => e = .returned (.float .f64 c) ∧ w = w') := Lib.hid fun w => by
  have := abs_any b h w
  rwa [hc] at this
/-- the sign, the place, the amount of a float that is no fault -/
theorem exp_fine {s : Int} (hs1 : -4 ≤ s) (hs2 : s ≤ 8) (b : Nat) (hb : b < 18446744073709551616) :
    (∃ sg B : Int, ∃ d : Nat, (∀ w, Calls Try.prog 19 #[.int .i64 s, .float .f64 b] w fun e w' => e = .returned (.tuple #[.agg #[.int .i64 sg, .int .i64 B], .int .i64 0]) ∧ Below w.heap.size w w') ∧ b % 9223372036854775808 = d ∧ d < 9218868437227405312 ∧ (d = 0 ∨ (0 < d ∧ B = FL.bk s d)))
    ∨ (∀ w, Calls Try.prog 19 #[.int .i64 s, .float .f64 b] w fun e w' => e = .returned (.tuple #[.agg #[.int .i64 0, .int .i64 0], .int .i64 81]) ∧ Below w.heap.size w w') := by
  rcases kinds b hb with ⟨k1, k2⟩ | ⟨c, rfl, k1, k2⟩ | k | k | k
  · exact .inl ⟨1, _, b, fun w => exp_pos w hs1 hs2 k1 k2, by omega, k2, .inr ⟨k1, rfl⟩⟩
  · exact .inl ⟨-1, _, c, fun w => exp_neg w hs1 hs2 k1 k2, by omega, k2, .inr ⟨k1, rfl⟩⟩
  · exact .inl ⟨0, 0, 0, fun w => exp_zero w hs1 hs2 k, by omega, by omega, .inl rfl⟩
  · exact .inr fun w => exp_inf w hs1 hs2 k
  · exact .inr fun w => exp_nan w hs1 hs2 k
theorem ord_le {c u : Nat} (h : c ≤ u) (hu : u < 9218868437227405312) : (FloatKind.f64.format.order c u == some .lt || FloatKind.f64.format.order c u == some .eq) = true := by
  by_cases he : c = u
  · subst he; rw [show FloatKind.f64.format.order c c = some .eq from FL.order_eq hu]; rfl
  · rw [show FloatKind.f64.format.order c u = some .lt from FL.order_lt (by omega) hu]; rfl
theorem exactLaw_any (s : Int) (xb yb : Nat) (hx : xb < 18446744073709551616) (hy : yb < 18446744073709551616) (w : World) : Calls Try.prog 7 #[.int .i64 s, .float .f64 xb, .float .f64 yb] w fun e w' => e = .returned (.bool true) ∧ Below w.heap.size w w' := by
  by_cases hs : s < -4 ∨ 8 < s
  · exact ex_bad1 (e1 := 2) rfl (Lib.hid fun w => exp_bad w hs) (Lib.hid fun w => exp_bad w hs) w
  have hs1 : -4 ≤ s := by omega
  have hs2 : s ≤ 8 := by omega
  rcases exp_fine hs1 hs2 xb hx with ⟨sgx, A, c, HX, hc, hcl, hcA⟩ | HX
  case inr =>
    obtain ⟨y0, y1, ey, HY⟩ := exp_all s yb hy
    exact ex_bad1 (e1 := 81) rfl (Lib.hid HX) (Lib.hid HY) w
  rcases exp_fine hs1 hs2 yb hy with ⟨sgy, B, d, HY, hd, hdl, hdB⟩ | HY
  case inr => exact ex_bad2 (Lib.hid HX) (Lib.hid HY) w
  have HQ := abs_of yb d hy hd
  rcases Nat.eq_zero_or_pos c with h0 | h0
  · have hxz : xb = 0 ∨ xb = 9223372036854775808 := by omega
    have hnx : ∃ nxb, Op.unary .neg (.float .f64 xb) = pure (.float .f64 nxb) ∧ (nxb = 0 ∨ nxb = 9223372036854775808) := by
      rcases hxz with rfl | rfl
      · exact ⟨9223372036854775808, rfl, .inr rfl⟩
      · exact ⟨0, rfl, .inl rfl⟩
    obtain ⟨nxb, hn, hz⟩ := hnx
    exact ex_zero (Lib.hid fun w => exp_zero w hs1 hs2 hxz) (Lib.hid HY) (Lib.hid fun w => exp_zero w hs1 hs2 hz) hn (abs_of xb 0 hx (by omega)) HQ w
  · have hA := bk_in (s := s) h0 hcl
    have hAs := bk_small (s := s) h0 hcl
    have hF := FL.top_exists s (FL.bk s c)
    obtain ⟨u, hu⟩ := hF
    obtain ⟨v, hv⟩ := FL.top_exists s (FL.bk s c - 1)
    have huc : c ≤ u := hu.2 c ⟨by omega, .inr (Int.le_refl _)⟩
    have hul : u < 9218868437227405312 := by have := FL.top_max hu; omega
    have hvc : v < c := by
      rcases Nat.lt_or_ge v c with h | h
      · exact h
      · have h1 := FL.inB_down hv.1 h
        rcases h1.2 with h2 | h2 <;> omega
    have HU : Hid (∀ w, Calls Try.prog 23 #[.int .i64 s, .int .i64 (FL.bk s c)] w fun e w' => e = .returned (.tuple #[.float .f64 u, .int .i64 0]) ∧ Below w.heap.size w w') := Lib.hid fun w => upper_any hs1 hs2 (by omega) (by omega) hu w
    have HV : Hid (∀ w, Calls Try.prog 23 #[.int .i64 s, .int .i64 (FL.bk s c - 1)] w fun e w' => e = .returned (.tuple #[.float .f64 v, .int .i64 0]) ∧ Below w.heap.size w w') := Lib.hid fun w => upper_any hs1 hs2 (by omega) (by omega) hv w
    have ou := ord_le huc hul
    have ov : FloatKind.f64.format.order v c = some .lt := FL.order_lt hvc hcl
    have op : FloatKind.f64.format.order c 0 = some .gt := FL.order_gt h0 hcl
    have HP := abs_of xb c hx hc
    have hxs : xb = c ∨ xb = 9223372036854775808 + c := by omega
    rcases hxs with rfl | rfl
    · have ox := op
      have hn : Op.unary .neg (.float .f64 xb) = pure (.float .f64 (9223372036854775808 + xb)) := by
        show pure (Value.float .f64 (Op.negFloat .f64 xb)) = _
        rw [neg_to (by omega)]
      have HXp := Lib.hid (fun w => exp_pos (s := s) (b := xb) w hs1 hs2 h0 hcl)
      have HC := Lib.hid (fun w => exp_neg (s := s) (c := xb) w hs1 hs2 h0 hcl)
      rcases hdB with rfl | ⟨hd0, rfl⟩
      · exact ex_p_z (by omega) (by omega) HXp (Lib.hid HY) HC hn HP HQ ox op (FL.order_eq (by omega)) HU HV ou ov w
      · have oq : FloatKind.f64.format.order d 0 = some .gt := FL.order_gt hd0 hdl
        rcases Nat.lt_trichotomy xb d with h | h | h
        · exact ex_p_lt (by omega) (by omega) HXp (Lib.hid HY) HC hn HP HQ ox op oq (FL.order_lt h hdl) (FL.bk_mono s h0 (by omega)) HU HV ou ov w
        · rw [← h] at HY HQ oq
          exact ex_p_eq (by omega) (by omega) HXp (Lib.hid HY) HC hn HP HQ ox op oq (FL.order_eq hcl) HU HV ou ov w
        · exact ex_p_gt (by omega) (by omega) HXp (Lib.hid HY) HC hn HP HQ ox op oq (FL.order_gt h hcl) (FL.bk_mono s hd0 (by omega)) HU HV ou ov w
    · have ox : FloatKind.f64.format.order (9223372036854775808 + c) 0 = some .lt := FL.order_neg0 h0 hcl
      have hn : Op.unary .neg (.float .f64 (9223372036854775808 + c)) = pure (.float .f64 c) := by
        show pure (Value.float .f64 (Op.negFloat .f64 (9223372036854775808 + c))) = _
        rw [neg_of (by omega)]
      have HXp := Lib.hid (fun w => exp_neg (s := s) (c := c) w hs1 hs2 h0 hcl)
      have HC := Lib.hid (fun w => exp_pos (s := s) (b := c) w hs1 hs2 h0 hcl)
      rcases hdB with rfl | ⟨hd0, rfl⟩
      · exact ex_n_z (by omega) (by omega) HXp (Lib.hid HY) HC hn HP HQ ox op (FL.order_eq (by omega)) HU HV ou ov w
      · have oq : FloatKind.f64.format.order d 0 = some .gt := FL.order_gt hd0 hdl
        rcases Nat.lt_trichotomy c d with h | h | h
        · exact ex_n_lt (by omega) (by omega) HXp (Lib.hid HY) HC hn HP HQ ox op oq (FL.order_lt h hdl) (FL.bk_mono s h0 (by omega)) HU HV ou ov w
        · rw [← h] at HY HQ oq
          exact ex_n_eq (by omega) (by omega) HXp (Lib.hid HY) HC hn HP HQ ox op oq (FL.order_eq hcl) HU HV ou ov w
        · exact ex_n_gt (by omega) (by omega) HXp (Lib.hid HY) HC hn HP HQ ox op oq (FL.order_gt h hcl) (FL.bk_mono s hd0 (by omega)) HU HV ou ov w
end Go.Proofs.Ytaeffkgnfbomdaa
