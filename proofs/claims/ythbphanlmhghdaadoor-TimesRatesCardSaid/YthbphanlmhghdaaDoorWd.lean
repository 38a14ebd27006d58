/- THE WALK of math/bits.Div64: two words by one, where the quotient fits into one. -/
import Derived.Test.YthbphanlmhghdaaDoorWc
import Derived.Laws.MathBits
namespace Go.Proofs.YthbphanlmhghdaaDoor
open Go.RowKit

theorem len64_int (y : Int) (h0 : 1 ≤ y) (h1 : y ≤ 18446744073709551615) (w : World) :
    Calls Tryd.prog 68 #[.int .u64 y] w fun e w' => e = .returned (.int .i64 (64 - (Lib.bitLen y.toNat : Int))) ∧ w = w' := by
  refine (Tryd.bits_LeadingZeros64 y w (by omega) h1).mono ?_
  rintro e w' ⟨rfl, rfl⟩
  exact ⟨rfl, rfl⟩

set_option maxRecDepth 100000 in
set_option maxHeartbeats 400000 in
theorem div64_small (lo y : Int) (hl : 0 ≤ lo) (hl' : lo ≤ 18446744073709551615) (h0 : 1 ≤ y) (h1 : y ≤ 18446744073709551615) (w : World) :
    Calls Tryd.prog 61 #[.int .u64 0, .int .u64 lo, .int .u64 y] w fun e w' => e = .returned (.tuple #[.int .u64 (lo / y), .int .u64 (lo % y)]) ∧ ∃ n, w' = w.drewN n := by
  have hz : (y == 0) = false := by simp; omega
  go_enter Tryd.func61, Tryd.ntmps61
  go_wp2
  go_region
  all_goals
    go_wp2
    go_ret2
    exact ⟨rfl, _, rfl⟩

/-! ### shifting both -/
theorem two_parts (S : Nat) (hS : S ≤ 63) : (2 : Int) ^ S * 2 ^ (64 - S) = 18446744073709551616 ∧ (1 : Int) ≤ 2 ^ S ∧ (1 : Int) ≤ 2 ^ (64 - S) := by
  refine ⟨?_, Int.pow_pos (by omega), Int.pow_pos (by omega)⟩
  rw [← Int.pow_add, show S + (64 - S) = 64 by omega]
  decide
theorem len_shift (y : Int) (h0 : 1 ≤ y) (h1 : y ≤ 18446744073709551615) :
    ∃ S : Nat, S ≤ 63 ∧ (64 - (Lib.bitLen y.toNat : Int)) = S ∧ 9223372036854775808 ≤ y * 2 ^ S ∧ y * 2 ^ S < 18446744073709551616 := by
  obtain ⟨n, rfl⟩ := Int.eq_ofNat_of_zero_le (by omega : 0 ≤ y)
  have hb := Lib.bitLenAux_bounds 64 n (by omega) (by omega)
  have hle := Lib.bitLen_le n 64 (Nat.le_refl _) (by omega)
  change 1 ≤ Lib.bitLen n ∧ 2 ^ (Lib.bitLen n - 1) ≤ n ∧ n < 2 ^ Lib.bitLen n at hb
  rw [Int.toNat_natCast]
  generalize Lib.bitLen n = L at *
  obtain ⟨b1, b2, b3⟩ := hb
  refine ⟨64 - L, by omega, by omega, ?_, ?_⟩
  · have h := Nat.mul_le_mul_right (2 ^ (64 - L)) b2
    rw [← Nat.pow_add, show L - 1 + (64 - L) = 63 by omega] at h
    have : ((2 ^ 63 : Nat) : Int) ≤ ((n * 2 ^ (64 - L) : Nat) : Int) := by omega
    rw [Int.natCast_mul, Int.natCast_pow] at this
    simpa using this
  · have h := Nat.mul_lt_mul_of_pos_right b3 (Nat.two_pow_pos (64 - L))
    rw [← Nat.pow_add, show L + (64 - L) = 64 by omega] at h
    have : ((n * 2 ^ (64 - L) : Nat) : Int) < ((2 ^ 64 : Nat) : Int) := by omega
    rw [Int.natCast_mul, Int.natCast_pow] at this
    simpa using this
theorem both_shifted (hi lo y : Int) (S : Nat) (hS : S ≤ 63) (hh : 0 ≤ hi) (hy : hi < y) (hl : 0 ≤ lo) (hl' : lo ≤ 18446744073709551615) :
    (hi * 2 ^ S + lo / 2 ^ (64 - S)) * 18446744073709551616 + lo * 2 ^ S % 18446744073709551616 = (hi * 18446744073709551616 + lo) * 2 ^ S ∧
    0 ≤ hi * 2 ^ S ∧ hi * 2 ^ S + 2 ^ S ≤ y * 2 ^ S ∧ 0 ≤ lo / 2 ^ (64 - S) ∧ lo / 2 ^ (64 - S) < 2 ^ S := by
  obtain ⟨a, b, c⟩ := two_parts S hS
  generalize (2 : Int) ^ S = k at *
  generalize (2 : Int) ^ (64 - S) = m at *
  have e := Int.emod_add_mul_ediv lo m
  have p0 := Int.emod_nonneg lo (by omega : m ≠ 0)
  have p1 := Int.emod_lt_of_pos lo (by omega : 0 < m)
  have q0 : 0 ≤ lo / m := Int.ediv_nonneg hl (by omega)
  generalize lo / m = q at *
  generalize lo % m = r at *
  have hk : lo * k = q * 18446744073709551616 + r * k := by
    rw [← e, Int.add_mul, Int.mul_comm m q, Int.mul_assoc, Int.mul_comm m k, a]; omega
  have r0 : 0 ≤ r * k := Int.mul_nonneg p0 (by omega)
  have r1 : r * k < 18446744073709551616 := by
    have := Int.mul_lt_mul_of_pos_right p1 (by omega : 0 < k)
    rw [Int.mul_comm m k, a] at this
    exact this
  have g : hi * k + k ≤ y * k := by
    have := Int.mul_le_mul_of_nonneg_right (by omega : hi + 1 ≤ y) (by omega : 0 ≤ k)
    rw [Int.add_mul] at this
    omega
  have qk : q < k := by
    apply Decidable.byContradiction
    intro hn
    have : k * m ≤ q * m := Int.mul_le_mul_of_nonneg_right (by omega) (by omega)
    rw [a, Int.mul_comm q m] at this
    omega
  refine ⟨?_, Int.mul_nonneg hh (by omega), g, q0, qk⟩
  rw [hk, Int.add_mul (hi * 18446744073709551616), hk, Int.mul_right_comm hi 18446744073709551616 k]
  omega

theorem low32 (v1 v0 : Int) (h1 : 0 ≤ v1) (h1' : v1 ≤ 4294967295) (h0 : 0 ≤ v0) (h0' : v0 ≤ 4294967295) :
    (v1 * 4294967296 + v0) / 4294967296 = v1 ∧ bits .and .u64 (v1 * 4294967296 + v0) 4294967295 = v0 := by
  refine ⟨by omega, ?_⟩
  rw [and_low32 _ (by omega) (by omega)]
  omega
theorem or_parts (x y : Int) (S : Nat) (hx0 : 0 ≤ x) (hx : x % 2 ^ S = 0) (hx1 : x < 18446744073709551616) (hy0 : 0 ≤ y) (hy : y < 2 ^ S) (hy1 : y < 18446744073709551616) : bits .or .u64 x y = x + y :=
  bits_join .u64 64 (by decide) (fun n a b => by rw [IntKind.wrap_u64]; omega) S x y hx0 hx (by simpa using hx1) hy0 hy (by simpa using hy1)
/-- what is left, in wrapped words -/
theorem wrap_rest (A d P R : Int) (h : A + d - P = R) (h0 : 0 ≤ R) (h1 : R < 18446744073709551616) :
    IntKind.u64.wrap (IntKind.u64.wrap (IntKind.u64.wrap A + d) - IntKind.u64.wrap P) = R := by
  simp only [IntKind.wrap_u64]
  omega
theorem wrap_self (x : Int) (h0 : 0 ≤ x) (h1 : x < 18446744073709551616) : IntKind.u64.wrap x = x := by rw [IntKind.wrap_u64]; omega

set_option maxRecDepth 100000 in
set_option maxHeartbeats 4000000 in
theorem div64_walk (hi lo y v1 v0 d1 d0 U Q1 R1 Q0 R0 : Int) (S : Nat) (hh : 1 ≤ hi) (hy : hi < y) (h1 : y ≤ 18446744073709551615) (hS : S ≤ 63) (hb : (64 - (Lib.bitLen y.toNat : Int)) = S)
    (hv : IntKind.u64.wrap (y * 2 ^ S) = v1 * 4294967296 + v0) (hv1 : 2147483648 ≤ v1) (hv1' : v1 ≤ 4294967295) (hv0 : 0 ≤ v0) (hv0' : v0 ≤ 4294967295)
    (hd : IntKind.u64.wrap (lo * 2 ^ S) = d1 * 4294967296 + d0) (hd1 : 0 ≤ d1) (hd1' : d1 ≤ 4294967295) (hd0 : 0 ≤ d0) (hd0' : d0 ≤ 4294967295)
    (hU : bits .or .u64 (IntKind.u64.wrap (hi * 2 ^ S)) (lo / 2 ^ (64 - S)) = U) (hU0 : 0 ≤ U) (hU1 : U < v1 * 4294967296 + v0)
    (hQ1 : Hid (Q1 = (U * 4294967296 + d1) / (v1 * 4294967296 + v0))) (hR1 : Hid (R1 = (U * 4294967296 + d1) % (v1 * 4294967296 + v0)))
    (hQ0 : Hid (Q0 = (R1 * 4294967296 + d0) / (v1 * 4294967296 + v0))) (hR0 : Hid (R0 = (R1 * 4294967296 + d0) % (v1 * 4294967296 + v0)))
    (w : World) :
    Calls Tryd.prog 61 #[.int .u64 hi, .int .u64 lo, .int .u64 y] w fun e w' => e = .returned (.tuple #[.int .u64 (Q1 * 4294967296 + Q0), .int .u64 (R0 / 2 ^ S)]) ∧ w = w' := by
  have hz : (y == 0) = false := by simp; omega
  have hz2 : (hi == 0) = false := by simp; omega
  obtain ⟨e1, e2⟩ := low32 v1 v0 (by omega) hv1' hv0 hv0'
  obtain ⟨e3, e4⟩ := low32 d1 d0 hd1 hd1' hd0 hd0'
  have hV : 0 < v1 * 4294967296 + v0 := by omega
  have G0 := TM.guess_init (d := d1) hU0 hU1 hv1 hv1' hv0 hv0' hd1 hd1'
  obtain ⟨g1, g2, g3, g4, g5⟩ := TM.guess_start U v1 v0 hU0 hU1 hv1 hv1' hv0 hv0'
  have g6 : 0 ≤ U / v1 * v1 := Int.mul_nonneg g1 (by omega)
  have g7 : U / v1 * v1 ≤ U := by omega
  have r0 : 0 ≤ R1 ∧ R1 < v1 * 4294967296 + v0 := by rw [hR1.out]; exact ⟨Int.emod_nonneg _ (by omega), Int.emod_lt_of_pos _ hV⟩
  obtain ⟨r0, r1⟩ := r0
  have K0 := TM.guess_init (d := d0) r0 r1 hv1 hv1' hv0 hv0' hd0 hd0'
  obtain ⟨k1, k2, k3, k4, k5⟩ := TM.guess_start R1 v1 v0 r0 r1 hv1 hv1' hv0 hv0'
  have k6 : 0 ≤ R1 / v1 * v1 := Int.mul_nonneg k1 (by omega)
  have k7 : R1 / v1 * v1 ≤ R1 := by omega
  have z0 : 0 ≤ R0 ∧ R0 < v1 * 4294967296 + v0 := by rw [hR0.out]; exact ⟨Int.emod_nonneg _ (by omega), Int.emod_lt_of_pos _ hV⟩
  obtain ⟨z0, z1⟩ := z0
  have q1a : 0 ≤ Q1 := by rw [hQ1.out]; exact Int.ediv_nonneg (by omega) (by omega)
  have q1b : Q1 < 4294967296 := by rw [hQ1.out]; exact TM.digit_lt hU1 hv1 hv0 hd1'
  have q0a : 0 ≤ Q0 := by rw [hQ0.out]; exact Int.ediv_nonneg (by omega) (by omega)
  have q0b : Q0 < 4294967296 := by rw [hQ0.out]; exact TM.digit_lt r1 hv1 hv0 hd0'
  have t1 := TM.rest_of (q := Q1) hV hQ1.out
  have t0 := TM.rest_of (q := Q0) hV hQ0.out
  have w1 : IntKind.u64.wrap (IntKind.u64.wrap (IntKind.u64.wrap (U * 4294967296) + d1) - IntKind.u64.wrap (Q1 * (v1 * 4294967296 + v0))) = R1 :=
    wrap_rest _ _ _ _ (t1.1.trans hR1.out.symm) r0 (by omega)
  have w0 : IntKind.u64.wrap (IntKind.u64.wrap (IntKind.u64.wrap (R1 * 4294967296) + d0) - IntKind.u64.wrap (Q0 * (v1 * 4294967296 + v0))) = R0 :=
    wrap_rest _ _ _ _ (t0.1.trans hR0.out.symm) z0 (by omega)
  have G := Lib.hid G0
  have K := Lib.hid K0
  clear G0 K0 t1 t0 g5 k5
  go_enter Tryd.func61, Tryd.ntmps61
  go_wp2_with (go_at_call 68; refine (len64_int _ (by omega) h1 _).mono ?_; rintro e w' ⟨rfl, rfl⟩)
  go_loop [15, 16] (fun a b => ∃ q r : Int, a = .int .u64 q ∧ b = .int .u64 r ∧ TM.Guess U d1 v1 v0 q r) (fun a _ => (intOf a).toNat)
  case atStart => exact ⟨_, _, rfl, rfl, G.out⟩
  case round =>
    obtain ⟨q, r, rfl, rfl, g⟩ := hrel
    obtain ⟨f1, f2⟩ := TM.guess_fits g hv0 hv0'
    have f3 := g.2.1
    have f4 := g.2.2.1
    have f5 := g.2.2.2.1
    have f6 := g.2.2.2.2.1
    have GG := Lib.hid g
    clear g
    by_cases cA : 4294967296 ≤ q
    · have cY := Lib.hid (TM.guess_yes GG.out hU1 hv1 hv0 hd1' (.inl cA) hd1)
      by_cases cB : 4294967296 ≤ r + v1
      · have E := Lib.hid ((TM.guess_great GG.out hU1 hv1 hv0 hv0' hd1' (.inl cA) hd1 cB).trans hQ1.out.symm)
        have E := E.out
        subst E
        go_wp2
        go_loop [16, 18] (fun b a => ∃ q r : Int, a = .int .u64 q ∧ b = .int .u64 r ∧ TM.Guess R1 d0 v1 v0 q r) (fun _ a => (intOf a).toNat)
        case atStart => exact ⟨_, _, rfl, rfl, K.out⟩
        case round =>
          obtain ⟨q', r', rfl, rfl, g'⟩ := hrel
          obtain ⟨m1, m2⟩ := TM.guess_fits g' hv0 hv0'
          have m3 := g'.2.1
          have m4 := g'.2.2.1
          have m5 := g'.2.2.2.1
          have m6 := g'.2.2.2.2.1
          have GG' := Lib.hid g'
          clear g'
          by_cases cA' : 4294967296 ≤ q'
          · have cY' := Lib.hid (TM.guess_yes GG'.out r1 hv1 hv0 hd0' (.inl cA') hd0)
            by_cases cB' : 4294967296 ≤ r' + v1
            · have E' := TM.guess_great GG'.out r1 hv1 hv0 hv0' hd0' (.inl cA') hd0 cB'
              rw [← hQ0.out] at E'
              subst E'
              go_wp2
              go_ret2
              exact ⟨rfl, rfl⟩
            · have E' := Lib.hid (TM.guess_again GG'.out r1 hv1 hv0 hd0' (.inl cA') hd0 (by omega))
              go_wp2
              go_round
              case rel => exact ⟨_, _, rfl, rfl, E'.out⟩
              case measure => simp only [intOf]; omega
          · by_cases cC' : 4294967296 * r' + d0 < q' * v0
            · have cq' := (TM.guess_yes GG'.out r1 hv1 hv0 hd0' (.inr cC') hd0).1
              by_cases cB' : 4294967296 ≤ r' + v1
              · have E' := TM.guess_great GG'.out r1 hv1 hv0 hv0' hd0' (.inr cC') hd0 cB'
                rw [← hQ0.out] at E'
                subst E'
                go_wp2
                go_ret2
                exact ⟨rfl, rfl⟩
              · have E' := Lib.hid (TM.guess_again GG'.out r1 hv1 hv0 hd0' (.inr cC') hd0 (by omega))
                go_wp2
                go_round
                case rel => exact ⟨_, _, rfl, rfl, E'.out⟩
                case measure => simp only [intOf]; omega
            · have E' := TM.guess_no GG'.out hv1 hv0 cC'
              rw [← hQ0.out] at E'
              subst E'
              go_wp2
              go_ret2
              exact ⟨rfl, rfl⟩
      · have E := Lib.hid (TM.guess_again GG.out hU1 hv1 hv0 hd1' (.inl cA) hd1 (by omega))
        go_wp2
        go_round
        case rel => exact ⟨_, _, rfl, rfl, E.out⟩
        case measure => simp only [intOf]; omega
    · by_cases cC : 4294967296 * r + d1 < q * v0
      · have cq := (TM.guess_yes GG.out hU1 hv1 hv0 hd1' (.inr cC) hd1).1
        by_cases cB : 4294967296 ≤ r + v1
        · have E := Lib.hid ((TM.guess_great GG.out hU1 hv1 hv0 hv0' hd1' (.inr cC) hd1 cB).trans hQ1.out.symm)
          have E := E.out
          subst E
          go_wp2
          go_loop [16, 18] (fun b a => ∃ q r : Int, a = .int .u64 q ∧ b = .int .u64 r ∧ TM.Guess R1 d0 v1 v0 q r) (fun _ a => (intOf a).toNat)
          case atStart => exact ⟨_, _, rfl, rfl, K.out⟩
          case round =>
            obtain ⟨q', r', rfl, rfl, g'⟩ := hrel
            obtain ⟨m1, m2⟩ := TM.guess_fits g' hv0 hv0'
            have m3 := g'.2.1
            have m4 := g'.2.2.1
            have m5 := g'.2.2.2.1
            have m6 := g'.2.2.2.2.1
            have GG' := Lib.hid g'
            clear g'
            by_cases cA' : 4294967296 ≤ q'
            · have cY' := Lib.hid (TM.guess_yes GG'.out r1 hv1 hv0 hd0' (.inl cA') hd0)
              by_cases cB' : 4294967296 ≤ r' + v1
              · have E' := TM.guess_great GG'.out r1 hv1 hv0 hv0' hd0' (.inl cA') hd0 cB'
                rw [← hQ0.out] at E'
                subst E'
                go_wp2
                go_ret2
                exact ⟨rfl, rfl⟩
              · have E' := Lib.hid (TM.guess_again GG'.out r1 hv1 hv0 hd0' (.inl cA') hd0 (by omega))
                go_wp2
                go_round
                case rel => exact ⟨_, _, rfl, rfl, E'.out⟩
                case measure => simp only [intOf]; omega
            · by_cases cC' : 4294967296 * r' + d0 < q' * v0
              · have cq' := (TM.guess_yes GG'.out r1 hv1 hv0 hd0' (.inr cC') hd0).1
                by_cases cB' : 4294967296 ≤ r' + v1
                · have E' := TM.guess_great GG'.out r1 hv1 hv0 hv0' hd0' (.inr cC') hd0 cB'
                  rw [← hQ0.out] at E'
                  subst E'
                  go_wp2
                  go_ret2
                  exact ⟨rfl, rfl⟩
                · have E' := Lib.hid (TM.guess_again GG'.out r1 hv1 hv0 hd0' (.inr cC') hd0 (by omega))
                  go_wp2
                  go_round
                  case rel => exact ⟨_, _, rfl, rfl, E'.out⟩
                  case measure => simp only [intOf]; omega
              · have E' := TM.guess_no GG'.out hv1 hv0 cC'
                rw [← hQ0.out] at E'
                subst E'
                go_wp2
                go_ret2
                exact ⟨rfl, rfl⟩
        · have E := Lib.hid (TM.guess_again GG.out hU1 hv1 hv0 hd1' (.inr cC) hd1 (by omega))
          go_wp2
          go_round
          case rel => exact ⟨_, _, rfl, rfl, E.out⟩
          case measure => simp only [intOf]; omega
      · have E := Lib.hid ((TM.guess_no GG.out hv1 hv0 cC).trans hQ1.out.symm)
        have E := E.out
        subst E
        go_wp2
        go_loop [16, 18] (fun b a => ∃ q r : Int, a = .int .u64 q ∧ b = .int .u64 r ∧ TM.Guess R1 d0 v1 v0 q r) (fun _ a => (intOf a).toNat)
        case atStart => exact ⟨_, _, rfl, rfl, K.out⟩
        case round =>
          obtain ⟨q', r', rfl, rfl, g'⟩ := hrel
          obtain ⟨m1, m2⟩ := TM.guess_fits g' hv0 hv0'
          have m3 := g'.2.1
          have m4 := g'.2.2.1
          have m5 := g'.2.2.2.1
          have m6 := g'.2.2.2.2.1
          have GG' := Lib.hid g'
          clear g'
          by_cases cA' : 4294967296 ≤ q'
          · have cY' := Lib.hid (TM.guess_yes GG'.out r1 hv1 hv0 hd0' (.inl cA') hd0)
            by_cases cB' : 4294967296 ≤ r' + v1
            · have E' := TM.guess_great GG'.out r1 hv1 hv0 hv0' hd0' (.inl cA') hd0 cB'
              rw [← hQ0.out] at E'
              subst E'
              go_wp2
              go_ret2
              exact ⟨rfl, rfl⟩
            · have E' := Lib.hid (TM.guess_again GG'.out r1 hv1 hv0 hd0' (.inl cA') hd0 (by omega))
              go_wp2
              go_round
              case rel => exact ⟨_, _, rfl, rfl, E'.out⟩
              case measure => simp only [intOf]; omega
          · by_cases cC' : 4294967296 * r' + d0 < q' * v0
            · have cq' := (TM.guess_yes GG'.out r1 hv1 hv0 hd0' (.inr cC') hd0).1
              by_cases cB' : 4294967296 ≤ r' + v1
              · have E' := TM.guess_great GG'.out r1 hv1 hv0 hv0' hd0' (.inr cC') hd0 cB'
                rw [← hQ0.out] at E'
                subst E'
                go_wp2
                go_ret2
                exact ⟨rfl, rfl⟩
              · have E' := Lib.hid (TM.guess_again GG'.out r1 hv1 hv0 hd0' (.inr cC') hd0 (by omega))
                go_wp2
                go_round
                case rel => exact ⟨_, _, rfl, rfl, E'.out⟩
                case measure => simp only [intOf]; omega
            · have E' := TM.guess_no GG'.out hv1 hv0 cC'
              rw [← hQ0.out] at E'
              subst E'
              go_wp2
              go_ret2
              exact ⟨rfl, rfl⟩

/-- math/bits.Div64, where the quotient fits into a word. -/
theorem div64_any (hi lo y : Int) (w : World) (hh : 0 ≤ hi) (hy : hi < y) (hl : 0 ≤ lo) (hl' : lo ≤ 18446744073709551615) (h1 : y ≤ 18446744073709551615) :
    Calls Tryd.prog 61 #[.int .u64 hi, .int .u64 lo, .int .u64 y] w fun e w' => e = .returned (.tuple #[.int .u64 ((hi * 18446744073709551616 + lo) / y), .int .u64 ((hi * 18446744073709551616 + lo) % y)]) ∧ ∃ n, w' = w.drewN n := by
  by_cases h0 : hi = 0
  · subst h0
    rw [Int.zero_mul, Int.zero_add]
    exact div64_small lo y hl hl' (by omega) h1 w
  · obtain ⟨S, hS, hb, hs1, hs2⟩ := len_shift y (by omega) h1
    obtain ⟨b1, b2, b3, b4, b5⟩ := both_shifted hi lo y S hS hh hy hl hl'
    have hk : (1 : Int) ≤ 2 ^ S := (two_parts S hS).2.1
    have hkk : (2 : Int) ^ S ≤ 9223372036854775808 := by
      have a := Nat.pow_le_pow_right (by omega : 0 < 2) hS
      have b : ((2 ^ S : Nat) : Int) ≤ ((2 ^ 63 : Nat) : Int) := by omega
      rw [Int.natCast_pow] at b
      simpa using b
    have hm : hi * 2 ^ S % 2 ^ S = 0 := Int.mul_emod_left hi _
    obtain ⟨v, hv⟩ : ∃ v, v = y * 2 ^ S := ⟨_, rfl⟩
    obtain ⟨u, hu⟩ : ∃ u, u = hi * 2 ^ S + lo / 2 ^ (64 - S) := ⟨_, rfl⟩
    obtain ⟨d, hd⟩ : ∃ d, d = lo * 2 ^ S % 18446744073709551616 := ⟨_, rfl⟩
    have hU : bits .or .u64 (IntKind.u64.wrap (hi * 2 ^ S)) (lo / 2 ^ (64 - S)) = u := by
      rw [wrap_self _ b2 (by omega), or_parts _ _ S b2 hm (by omega) b4 b5 (by omega), hu]
    have hD : IntKind.u64.wrap (lo * 2 ^ S) = d / 4294967296 * 4294967296 + d % 4294967296 := by rw [IntKind.wrap_u64, ← hd]; omega
    have hV : IntKind.u64.wrap (y * 2 ^ S) = v / 4294967296 * 4294967296 + v % 4294967296 := by rw [wrap_self _ (by omega) hs2, ← hv]; omega
    have hd0 : 0 ≤ d ∧ d < 18446744073709551616 := by omega
    refine (div64_walk hi lo y (v / 4294967296) (v % 4294967296) (d / 4294967296) (d % 4294967296) u _ _ _ _ S (by omega) hy h1 hS hb hV (by omega) (by omega) (by omega) (by omega)
      hD (by omega) (by omega) (by omega) (by omega) hU (by omega) (by omega) rfl rfl rfl rfl w).mono ?_
    rintro e w' ⟨rfl, rfl⟩
    have hvv : v / 4294967296 * 4294967296 + v % 4294967296 = v := by omega
    obtain ⟨t1, t2⟩ := TM.two_digits u (d / 4294967296) (d % 4294967296) v (by omega)
    have hdd : d / 4294967296 * 4294967296 + d % 4294967296 = d := by omega
    obtain ⟨s1, s2⟩ := TM.shifted (hi * 18446744073709551616 + lo) y (2 ^ S) (by omega)
    have hn : u * 18446744073709551616 + d = (hi * 18446744073709551616 + lo) * 2 ^ S := by rw [hu, hd]; exact b1
    rw [hdd, hn, hv] at t1 t2
    rw [hvv, hv]
    exact ⟨ret_ii (t1.symm.trans s1) (by rw [← t2]; exact s2), 0, rfl⟩
end Go.Proofs.YthbphanlmhghdaaDoor
