/- THE WALKS of package gauges: wants. -/
import Derived.Test.YtcocegneegjcpaaGb
namespace Go.Proofs.Ytcocegneegjcpaa
open Go Go.RowKit

/-- the bits of a sum -/
def addB (v x : Nat) : Nat := match Ieee.double.add v x with
  | some r => GM.bitsOf r
  | none => 9221120237041090561
/-- a float that stands for bits -/
def Stands (r p : Nat) : Prop := B64 r ∧ GM.bitsOf r = p
theorem add_some {v x r : Nat} (h : Ieee.double.add v x = some r) (t : TypeId) (w : World) : (binOp .add t (.float .f64 v) (.float .f64 x)).run Try.prog w = .ok (.float .f64 r) w := run_float_arith w .add t .f64 v x r h
/-- some float that is no number -/
def nanAt (v x : Nat) (w : World) : Nat := (Question.nanBits .f64 v x).cut (w.tape w.drawn (.nanBits .f64 v x))
theorem nan_at (v x : Nat) (w : World) : Stands (nanAt v x w) 9221120237041090561 := by
  have h : nanAt v x w < 18446744073709551616 ∧ 9218868437227405312 < nanAt v x w % 9223372036854775808 := by
    unfold nanAt Question.cut
    generalize w.tape w.drawn (.nanBits .f64 v x) = q
    simp only [show (2 : Nat) ^ 63 = 9223372036854775808 from rfl, show (2 : Nat) ^ 52 = 4503599627370496 from rfl]
    have hr := Nat.mod_lt (q / 2) (show 0 < 4503599627370496 - 1 by omega)
    generalize q / 2 % (4503599627370496 - 1) = r at *
    rcases Nat.mod_two_eq_zero_or_one q with e | e <;> rw [e] <;> omega
  exact ⟨h.1, by unfold GM.bitsOf GM.nan; rw [decide_eq_true h.2]; rfl⟩
theorem add_none {v x : Nat} (h : Ieee.double.add v x = none) (t : TypeId) (w : World) : (binOp .add t (.float .f64 v) (.float .f64 x)).run Try.prog w = .ok (.float .f64 (nanAt v x w)) w.drew := by
  have h' : FloatKind.f64.format.add v x = none := h
  simp [binOp, Op.floatArith, h', Question.forced, nanAt]
theorem add_lt {v x r : Nat} (h : Ieee.double.add v x = some r) : B64 r := by
  have h' := floatBits_wf (op := .add) (k := .f64) (x := v) (y := x) (r := r) h
  unfold B64
  simpa [Lit.wf] using h'

/-- the bits that an operation puts where v is, if it puts something -/
def putG (k : Int) (x v : Nat) : Option Nat :=
  if k = 3 then some (addB v x) else if k = 4 then (if GM.above x v then some (GM.bitsOf x) else none)
  else if k = 5 then (if !GM.nan x && (GM.nan v || GM.above v x) then some (GM.bitsOf x) else none) else none
/-- what wants leaves -/
def Wanted (w : World) (k : Int) (x v : Nat) (e : Ending) (w' : World) : Prop :=
  ∃ r, e = .returned (.tuple #[.float .f64 r, .bool (putG k x v).isSome]) ∧ B64 r ∧ (∃ m, w' = w.drewN m) ∧ ∀ p, putG k x v = some p → GM.bitsOf r = p

set_option maxRecDepth 100000
theorem gwants_any {w : World} {bp bk : Nat} {k : Int} {x saw put ans v : Nat} {nx : Value} (h : Row w bp 115 (pendG bk k x saw put nx ans)) (lx : B64 x) (lv : B64 v) :
    Calls Try.prog 82 #[.pointer (some ⟨bp, 0, none⟩), .float .f64 v] w (Wanted w k x v) := by
  obtain ⟨c0, c1, c2, c3, c4, c5, c6⟩ := pendG_cells h
  have hlt := h.lt
  have LX := Lib.hid lx
  have LV := Lib.hid lv
  clear h lx lv
  by_cases k3 : k = 3
  · subst k3
    have P3 : Hid (putG 3 x v = some (addB v x)) := Lib.hid rfl
    cases ha : Ieee.double.add v x with
    | some r =>
      have hq := fun t w => add_some ha t w
      have HR := Lib.hid (add_lt ha)
      have HB : Hid (GM.bitsOf r = addB v x) := Lib.hid (by unfold addB; rw [ha])
      clear ha
      go_enter Try.func82, Try.ntmps82
      go_wp2
      go_ret2
      exact ⟨r, by rw [P3.out]; rfl, HR.out, ⟨0, rfl⟩, fun p hp => by rw [P3.out] at hp; cases hp; exact HB.out⟩
    | none =>
      have hq := fun t w => add_none ha t w
      have HB : Hid (addB v x = 9221120237041090561) := Lib.hid (by unfold addB; rw [ha])
      clear ha
      go_enter Try.func82, Try.ntmps82
      go_wp2
      go_ret2
      exact ⟨nanAt v x w, by rw [P3.out]; rfl, (nan_at v x w).1, ⟨1, rfl⟩, fun p hp => by rw [P3.out] at hp; cases hp; rw [HB.out]; exact (nan_at v x w).2⟩
  have e3 : (k == 3) = false := by simpa using k3
  by_cases k4 : k = 4
  · subst k4
    cases ha : GM.above x v with
    | true =>
      have P4 : Hid (putG 4 x v = some (GM.bitsOf x)) := Lib.hid (by simp [putG, ha])
      have HA := Lib.hid ha
      clear ha
      go_enter Try.func82, Try.ntmps82
      go_wp2_with (go_at_call 52; refine (gabove_any LX.out LV.out _).mono ?_; rw [HA.out]; rintro e w1 ⟨rfl, rfl⟩)
      go_ret2
      exact ⟨x, by rw [P4.out]; rfl, LX.out, ⟨0, rfl⟩, fun p hp => by rw [P4.out] at hp; cases hp; rfl⟩
    | false =>
      have P4 : Hid (putG 4 x v = none) := Lib.hid (by simp [putG, ha])
      have HA := Lib.hid ha
      clear ha
      go_enter Try.func82, Try.ntmps82
      go_wp2_with (go_at_call 52; refine (gabove_any LX.out LV.out _).mono ?_; rw [HA.out]; rintro e w1 ⟨rfl, rfl⟩)
      go_ret2
      exact ⟨x, by rw [P4.out]; rfl, LX.out, ⟨0, rfl⟩, fun p hp => by rw [P4.out] at hp; cases hp⟩
  have e4 : (k == 4) = false := by simpa using k4
  by_cases k5 : k = 5
  · subst k5
    cases hx : GM.nan x with
    | true =>
      have P5 : Hid (putG 5 x v = none) := Lib.hid (by simp [putG, hx])
      have HX := Lib.hid hx
      clear hx
      go_enter Try.func82, Try.ntmps82
      go_wp2_with (go_at_call 59; (with_reducible refine (isNaN_any LX.out _).mono ?_); rw [HX.out]; rintro e w1 ⟨rfl, rfl⟩)
      go_ret2
      exact ⟨x, by rw [P5.out]; rfl, LX.out, ⟨0, rfl⟩, fun p hp => by rw [P5.out] at hp; cases hp⟩
    | false =>
      cases hv : GM.nan v with
      | true =>
        have P5 : Hid (putG 5 x v = some (GM.bitsOf x)) := Lib.hid (by simp [putG, hx, hv])
        have HX := Lib.hid hx
        have HV := Lib.hid hv
        clear hx hv
        go_enter Try.func82, Try.ntmps82
        go_wp2_with (first
          | (go_at_call 59; (with_reducible refine (isNaN_any LX.out _).mono ?_); rw [HX.out]; rintro e w1 ⟨rfl, rfl⟩)
          | (go_at_call 59; (with_reducible refine (isNaN_any LV.out _).mono ?_); rw [HV.out]; rintro e w1 ⟨rfl, rfl⟩))
        go_ret2
        exact ⟨x, by rw [P5.out]; rfl, LX.out, ⟨0, rfl⟩, fun p hp => by rw [P5.out] at hp; cases hp; rfl⟩
      | false =>
        cases ha : GM.above v x with
        | true =>
          have P5 : Hid (putG 5 x v = some (GM.bitsOf x)) := Lib.hid (by simp [putG, hx, hv, ha])
          have HX := Lib.hid hx
          have HV := Lib.hid hv
          have HA := Lib.hid ha
          clear hx hv ha
          go_enter Try.func82, Try.ntmps82
          go_wp2_with (first
            | (go_at_call 59; (with_reducible refine (isNaN_any LX.out _).mono ?_); rw [HX.out]; rintro e w1 ⟨rfl, rfl⟩)
            | (go_at_call 59; (with_reducible refine (isNaN_any LV.out _).mono ?_); rw [HV.out]; rintro e w1 ⟨rfl, rfl⟩)
            | (go_at_call 52; refine (gabove_any LV.out LX.out _).mono ?_; rw [HA.out]; rintro e w1 ⟨rfl, rfl⟩))
          go_ret2
          exact ⟨x, by rw [P5.out]; rfl, LX.out, ⟨0, rfl⟩, fun p hp => by rw [P5.out] at hp; cases hp; rfl⟩
        | false =>
          have P5 : Hid (putG 5 x v = none) := Lib.hid (by simp [putG, hx, hv, ha])
          have HX := Lib.hid hx
          have HV := Lib.hid hv
          have HA := Lib.hid ha
          clear hx hv ha
          go_enter Try.func82, Try.ntmps82
          go_wp2_with (first
            | (go_at_call 59; (with_reducible refine (isNaN_any LX.out _).mono ?_); rw [HX.out]; rintro e w1 ⟨rfl, rfl⟩)
            | (go_at_call 59; (with_reducible refine (isNaN_any LV.out _).mono ?_); rw [HV.out]; rintro e w1 ⟨rfl, rfl⟩)
            | (go_at_call 52; refine (gabove_any LV.out LX.out _).mono ?_; rw [HA.out]; rintro e w1 ⟨rfl, rfl⟩))
          go_ret2
          exact ⟨x, by rw [P5.out]; rfl, LX.out, ⟨0, rfl⟩, fun p hp => by rw [P5.out] at hp; cases hp⟩
  have e5 : (k == 5) = false := by simpa using k5
  have P0 : Hid (putG k x v = none) := Lib.hid (by simp [putG, k3, k4, k5])
  clear k3 k4 k5
  go_enter Try.func82, Try.ntmps82
  go_wp2
  go_ret2
  exact ⟨v, by rw [P0.out]; rfl, LV.out, ⟨0, rfl⟩, fun p hp => by rw [P0.out] at hp; cases hp⟩
end Go.Proofs.Ytcocegneegjcpaa
