/- THE WALKS of the document's own answers for gauges: rank, Above, Right, puts. -/
import Derived.Test.YtcocegneegjcpaaGd
namespace Go.Proofs.Ytcocegneegjcpaa
open Go Go.RowKit

theorem or63 (b : Nat) (h : b < 9223372036854775808) : bits .or .u64 (b : Int) 9223372036854775808 = ((9223372036854775808 + b : Nat) : Int) := by
  have h1 := bits_or_u64_nat b 9223372036854775808 (by omega) (by omega)
  have e := Nat.two_pow_add_eq_or_of_lt (i := 63) (b := b) (by omega) 1
  rw [Nat.or_comm, show 9223372036854775808 ||| b = 9223372036854775808 + b from e.symm] at h1
  exact h1
theorem xorMax (b : Nat) (h : b < 18446744073709551616) : bits .xor .u64 IntKind.u64.max (b : Int) = 18446744073709551615 - (b : Int) := by
  have h2 : (BitVec.ofInt 64 (b : Int)).toNat = b := by
    rw [BitVec.ofInt_natCast, BitVec.toNat_ofNat]; exact Nat.mod_eq_of_lt (by omega)
  have e : BitVec.ofInt 64 (18446744073709551615 : Int) = BitVec.allOnes 64 := by decide
  show IntKind.u64.wrap ((BitVec.ofInt 64 (18446744073709551615 : Int) ^^^ BitVec.ofInt 64 (b : Int)).toNat : Int) = _
  rw [e, BitVec.allOnes_xor, BitVec.toNat_not, h2, IntKind.wrap_u64]
  omega
set_option maxRecDepth 100000
theorem rrank_any {b : Nat} (lb : B64 b) (w : World) : Calls Try.prog 98 #[.float .f64 b] w fun e w' => e = .returned (.tuple #[.bool true, .int .u64 (GM.rank b : Nat)]) ∧ w = w' := by
  have h1 := run_bits b w
  have hlt : b < 18446744073709551616 := lb
  by_cases hs : 9223372036854775808 ≤ b
  · have HR : Hid (((GM.rank b : Nat) : Int) = 18446744073709551615 - (b : Int)) := Lib.hid (by unfold GM.rank; rw [if_neg (by omega)]; omega)
    have hq : (b : Int) / 9223372036854775808 = 1 := by omega
    have HB : Hid (bits .xor .u64 IntKind.u64.max (b : Int) = (GM.rank b : Nat)) := Lib.hid ((xorMax b lb).trans HR.out.symm)
    clear lb hs hlt
    go_enter Try.func98, Try.ntmps98
    go_wp2
    go_ret2
    exact ⟨congrArg (fun z : Int => Ending.returned (.tuple #[.bool true, .int .u64 z])) HB.out, rfl⟩
  · have HR : Hid (((GM.rank b : Nat) : Int) = ((9223372036854775808 + b : Nat) : Int)) := Lib.hid (by unfold GM.rank; rw [if_pos (by omega)]; omega)
    have hq : (b : Int) / 9223372036854775808 = 0 := by omega
    have ho := or63 b (by omega)
    clear lb hs hlt
    go_enter Try.func98, Try.ntmps98
    go_wp2
    go_ret2
    exact ⟨congrArg (fun z : Int => Ending.returned (.tuple #[.bool true, .int .u64 z])) (show (9223372036854775808 + (b : Int)) = (GM.rank b : Nat) by rw [HR.out]; omega), rfl⟩
theorem rabove_any {a b : Nat} (la : B64 a) (lb : B64 b) (w : World) : Calls Try.prog 85 #[.float .f64 a, .float .f64 b] w fun e w' => e = .returned (.bool (GM.above a b)) ∧ w = w' := by
  have ha : (FloatKind.f64.format.order a a != some .eq) = GM.nan a := GM.self_ne la
  have hb : (FloatKind.f64.format.order b b != some .eq) = GM.nan b := GM.self_ne lb
  have LA := Lib.hid la
  have LB := Lib.hid lb
  clear la lb
  cases na : GM.nan a with
  | true =>
    rw [na] at ha
    have H : Hid (GM.above a b = false) := Lib.hid (by simp [GM.above, na])
    clear na hb
    go_enter Try.func85, Try.ntmps85
    go_wp2
    go_ret
    exact ⟨by rw [H.out]; rfl, rfl⟩
  | false =>
    rw [na] at ha
    cases nb : GM.nan b with
    | true =>
      rw [nb] at hb
      have H : Hid (GM.above a b = true) := Lib.hid (by simp [GM.above, na, nb])
      clear na nb
      go_enter Try.func85, Try.ntmps85
      go_wp2
      go_ret
      exact ⟨by rw [H.out]; rfl, rfl⟩
    | false =>
      rw [nb] at hb
      have H : Hid (GM.above a b = decide (GM.rank b < GM.rank a)) := Lib.hid (by simp [GM.above, na, nb])
      clear na nb
      go_enter Try.func85, Try.ntmps85
      go_wp2_with (first
        | (go_at_call 98; (with_reducible refine (rrank_any LA.out _).mono ?_); rintro e w1 ⟨rfl, rfl⟩)
        | (go_at_call 98; (with_reducible refine (rrank_any LB.out _).mono ?_); rintro e w1 ⟨rfl, rfl⟩))
      go_ret
      exact ⟨by rw [H.out]; rfl, rfl⟩
theorem rabove_q {a b : Nat} {c : Bool} (la : B64 a) (lb : B64 b) (h : GM.above a b = c) (w : World) : Calls Try.prog 85 #[.float .f64 a, .float .f64 b] w fun e w' => e = .returned (.bool c) ∧ w' = w := by
  subst h
  exact (rabove_any la lb w).mono fun _ _ ⟨a, b⟩ => ⟨a, b.symm⟩
theorem rright_any {k : Int} {x : Nat} (lx : B64 x) (w : World) : Calls Try.prog 12 #[.agg #[.int .u8 k, .float .f64 x]] w fun e w' => e = .returned (.bool (grightB k x)) ∧ Below w.heap.size w w' := by
  have hz : (FloatKind.f64.format.order x 0 == some .eq) = decide (x = 0 ∨ x = 9223372036854775808) := GM.zero_eq lx
  have hB : Hid (∀ o, Below w.heap.size w (w.alloc o)) := Lib.hid (fun o => (Below.refl _ _).alloc (Nat.le_refl _) o)
  by_cases h1 : k = 1
  · subst h1
    have h1 := run_bits x (w.alloc (.cells #[.int .u8 1, .float .f64 x] 35))
    by_cases x0 : x = 0
    · have H : Hid (grightB 1 x = true) := Lib.hid (by simp [grightB, x0])
      have e0 : ((x : Int) == 0) = true := by simp [x0]
      rw [decide_eq_true (Or.inl x0)] at hz
      clear lx x0
      go_enter Try.func12, Try.ntmps12
      go_wp2
      go_ret
      exact ⟨by rw [H.out]; rfl, hB.out _⟩
    · have e0 : ((x : Int) == 0) = false := by simp; omega
      by_cases xm : x = 9223372036854775808
      · have H : Hid (grightB 1 x = true) := Lib.hid (by simp [grightB, xm])
        rw [decide_eq_true (Or.inr xm)] at hz
        clear lx x0 xm
        go_enter Try.func12, Try.ntmps12
        go_wp2
        go_ret
        exact ⟨by rw [H.out]; rfl, hB.out _⟩
      · have H : Hid (grightB 1 x = false) := Lib.hid (by simp [grightB, x0, xm])
        rw [decide_eq_false (by omega)] at hz
        clear lx x0 xm
        go_enter Try.func12, Try.ntmps12
        go_wp2
        go_ret
        exact ⟨by rw [H.out]; rfl, hB.out _⟩
  · have e1 : (k == 1) = false := by simpa using h1
    by_cases h2 : 2 ≤ k
    · have d2 : decide (2 ≤ k) = true := by simpa using h2
      by_cases h5 : k ≤ 5
      · have d5 : decide (k ≤ 5) = true := by simpa using h5
        have H : Hid (grightB k x = true) := Lib.hid (by simp [grightB, h2, h5])
        clear h1 h2 h5 hz lx
        go_enter Try.func12, Try.ntmps12
        go_wp2
        go_ret
        exact ⟨by rw [H.out]; rfl, hB.out _⟩
      · have d5 : decide (k ≤ 5) = false := by simpa using h5
        have H : Hid (grightB k x = false) := Lib.hid (by simp [grightB, h1, h5])
        clear h1 h2 h5 hz lx
        go_enter Try.func12, Try.ntmps12
        go_wp2
        go_ret
        exact ⟨by rw [H.out]; rfl, hB.out _⟩
    · have d2 : decide (2 ≤ k) = false := by simpa using h2
      have H : Hid (grightB k x = false) := Lib.hid (by simp [grightB, h1, h2])
      clear h1 h2 hz lx
      go_enter Try.func12, Try.ntmps12
      go_wp2
      go_ret
      exact ⟨by rw [H.out]; rfl, hB.out _⟩
/-- what 'puts' leaves -/
def RPuts (w : World) (k : Int) (x v : Nat) (e : Ending) (w' : World) : Prop :=
  ∃ r, e = .returned (.tuple #[.float .f64 r, .bool (putG k x v).isSome]) ∧ B64 r ∧ Below w.heap.size w w' ∧ ∀ p, putG k x v = some p → GM.bitsOf r = p
theorem rputs_any {k : Int} {x v : Nat} (lx : B64 x) (lv : B64 v) (w : World) :
    Calls Try.prog 58 #[.agg #[.int .u8 k, .float .f64 x], .float .f64 v] w (RPuts w k x v) := by
  have LX := Lib.hid lx
  have LV := Lib.hid lv
  have hx : (FloatKind.f64.format.order x x == some .eq) = !GM.nan x := GM.self_eq lx
  have hv : (FloatKind.f64.format.order v v != some .eq) = GM.nan v := GM.self_ne lv
  have hB : Hid (∀ o n, Below w.heap.size w ((w.alloc o).drewN n)) := Lib.hid (fun o n => Part.end_ (Part.drewN (Part.alloc (Part.refl [] w) o) n))
  clear lx lv
  by_cases k3 : k = 3
  · subst k3
    have P3 : Hid (putG 3 x v = some (addB v x)) := Lib.hid rfl
    clear hx hv
    cases ha : Ieee.double.add v x with
    | some r =>
      have hq := fun t w => add_some ha t w
      have HR := Lib.hid (add_lt ha)
      have HB : Hid (GM.bitsOf r = addB v x) := Lib.hid (by unfold addB; rw [ha])
      clear ha
      go_enter Try.func58, Try.ntmps58
      go_wp2
      go_ret2
      exact ⟨r, by rw [P3.out]; rfl, HR.out, hB.out _ 0, fun p hp => by rw [P3.out] at hp; cases hp; exact HB.out⟩
    | none =>
      have hq := fun t w => add_none ha t w
      have HB : Hid (addB v x = 9221120237041090561) := Lib.hid (by unfold addB; rw [ha])
      clear ha
      go_enter Try.func58, Try.ntmps58
      go_wp2
      go_ret2
      exact ⟨_, by rw [P3.out]; rfl, (nan_at v x _).1, hB.out _ 1, fun p hp => by rw [P3.out] at hp; cases hp; rw [HB.out]; exact (nan_at v x _).2⟩
  have e3 : (k == 3) = false := by simpa using k3
  by_cases k4 : k = 4
  · subst k4
    clear hx hv
    cases ha : GM.above x v with
    | true =>
      have P4 : Hid (putG 4 x v = some (GM.bitsOf x)) := Lib.hid (by simp [putG, ha])
      have HA := Lib.hid ha
      clear ha
      go_enter Try.func58, Try.ntmps58
      go_wp2
      go_quiet ((go_at_call 85; exact Calls.quiet_of_same (rabove_q LX.out LV.out HA.out _)))
      go_wp2
      go_ret2
      exact ⟨x, by rw [P4.out]; rfl, LX.out, hB.out _ _, fun p hp => by rw [P4.out] at hp; cases hp; rfl⟩
    | false =>
      have P4 : Hid (putG 4 x v = none) := Lib.hid (by simp [putG, ha])
      have HA := Lib.hid ha
      clear ha
      go_enter Try.func58, Try.ntmps58
      go_wp2
      go_quiet ((go_at_call 85; exact Calls.quiet_of_same (rabove_q LX.out LV.out HA.out _)))
      go_wp2
      go_ret2
      exact ⟨x, by rw [P4.out]; rfl, LX.out, hB.out _ _, fun p hp => by rw [P4.out] at hp; cases hp⟩
  have e4 : (k == 4) = false := by simpa using k4
  by_cases k5 : k = 5
  · subst k5
    cases nx : GM.nan x with
    | true =>
      rw [nx] at hx
      have P5 : Hid (putG 5 x v = none) := Lib.hid (by simp [putG, nx])
      clear nx hv
      go_enter Try.func58, Try.ntmps58
      go_wp2
      go_quiet (fail)
      go_wp2
      go_ret2
      exact ⟨x, by rw [P5.out]; rfl, LX.out, hB.out _ _, fun p hp => by rw [P5.out] at hp; cases hp⟩
    | false =>
      rw [nx] at hx
      cases nv : GM.nan v with
      | true =>
        rw [nv] at hv
        have P5 : Hid (putG 5 x v = some (GM.bitsOf x)) := Lib.hid (by simp [putG, nx, nv])
        clear nx nv
        go_enter Try.func58, Try.ntmps58
        go_wp2
        go_quiet (fail)
        go_wp2
        go_ret2
        exact ⟨x, by rw [P5.out]; rfl, LX.out, hB.out _ _, fun p hp => by rw [P5.out] at hp; cases hp; rfl⟩
      | false =>
        rw [nv] at hv
        cases ha : GM.above v x with
        | true =>
          have P5 : Hid (putG 5 x v = some (GM.bitsOf x)) := Lib.hid (by simp [putG, nx, nv, ha])
          have HA := Lib.hid ha
          clear nx nv ha
          go_enter Try.func58, Try.ntmps58
          go_wp2
          go_quiet ((go_at_call 85; exact Calls.quiet_of_same (rabove_q LV.out LX.out HA.out _)))
          go_wp2
          go_ret2
          exact ⟨x, by rw [P5.out]; rfl, LX.out, hB.out _ _, fun p hp => by rw [P5.out] at hp; cases hp; rfl⟩
        | false =>
          have P5 : Hid (putG 5 x v = none) := Lib.hid (by simp [putG, nx, nv, ha])
          have HA := Lib.hid ha
          clear nx nv ha
          go_enter Try.func58, Try.ntmps58
          go_wp2
          go_quiet ((go_at_call 85; exact Calls.quiet_of_same (rabove_q LV.out LX.out HA.out _)))
          go_wp2
          go_ret2
          exact ⟨x, by rw [P5.out]; rfl, LX.out, hB.out _ _, fun p hp => by rw [P5.out] at hp; cases hp⟩
  have e5 : (k == 5) = false := by simpa using k5
  have P0 : Hid (putG k x v = none) := Lib.hid (by simp [putG, k3, k4, k5])
  clear k3 k4 k5 hx hv
  go_enter Try.func58, Try.ntmps58
  go_wp2
  go_ret2
  exact ⟨v, by rw [P0.out]; rfl, LV.out, hB.out _ 0, fun p hp => by rw [P0.out] at hp; cases hp⟩
end Go.Proofs.Ytcocegneegjcpaa
