/- THE WALKS of package gauges' small functions on floats, and of the document's own. -/
import Derived.Test.YtcocegneegjcpaaCa
import Derived.Test.YtcocegneegjcpaaGm
import Derived.OwnWalk
import Derived.WalkLawsBesides
import Derived.WalkSpells
import Derived.BigQuiet
import Derived.Deep.QuietTactic
import Derived.Deep.RegionWith
import Derived.Laws.FloatArith
import Derived.Laws.Externs
import Derived.Laws.Bits64b
namespace Go.Proofs.Ytcocegneegjcpaa
open Go Go.RowKit

/-- the bits of a float -/
def B64 (b : Nat) : Prop := b < 18446744073709551616

theorem run_bits (b : Nat) (w : World) : (callFunc 51 #[.float .f64 b]).run Try.prog w = .ok (.value (.int .u64 b)) w := by
  rw [run_callFunc_extern (P := Try.prog) Try.func51 (by kernel_rfl) (by kernel_rfl) (by kernel_rfl) (e := Extern.MathFloatBits.float64bits) (by kernel_rfl)]
  rfl
theorem run_frombits (n : Nat) (w : World) : (callFunc 57 #[.int .u64 (n : Int)]).run Try.prog w = .ok (.value (.float .f64 n)) w := by
  rw [run_callFunc_extern (P := Try.prog) Try.func57 (by kernel_rfl) (by kernel_rfl) (by kernel_rfl) (e := Extern.MathFloatBits.float64frombits) (by kernel_rfl)]
  rfl
theorem run_frombits_u64 {x : Int} (hx : U64 x) (w : World) : (callFunc 57 #[.int .u64 x]).run Try.prog w = .ok (.value (.float .f64 x.toNat)) w := by
  obtain ⟨n, rfl⟩ := Int.eq_ofNat_of_zero_le hx.1
  exact run_frombits n w

theorem isNaN_any {b : Nat} (lb : B64 b) (w : World) : Calls Try.prog 59 #[.float .f64 b] w fun e w' => e = .returned (.bool (GM.nan b)) ∧ w = w' := by
  have h : (FloatKind.f64.format.order b b != some .eq) = GM.nan b := GM.self_ne lb
  have H := Lib.hid h
  clear h lb
  go_enter Try.func59, Try.ntmps59
  go_wp2
  go_ret
  exact ⟨by rw [← H.out]; rfl, rfl⟩
set_option maxRecDepth 100000 in
theorem signbit_any {b : Nat} (lb : B64 b) (w : World) : Calls Try.prog 80 #[.float .f64 b] w fun e w' => e = .returned (.bool (decide (9223372036854775808 ≤ b))) ∧ w = w' := by
  have h1 := run_bits b w
  have H : Hid ((decide (wrap64 (b : Int) < 0) : Bool) = decide (9223372036854775808 ≤ b)) := Lib.hid (by
    unfold B64 at lb
    by_cases h : 9223372036854775808 ≤ b
    · rw [decide_eq_true h, decide_eq_true (show wrap64 (b : Int) < 0 by unfold wrap64; omega)]
    · rw [decide_eq_false h, decide_eq_false (show ¬ wrap64 (b : Int) < 0 by unfold wrap64; omega)])
  clear lb
  go_enter Try.func80, Try.ntmps80
  go_wp2
  go_ret
  exact ⟨by rw [← H.out]; rfl, rfl⟩
theorem gbits_any {b : Nat} (lb : B64 b) (w : World) : Calls Try.prog 18 #[.float .f64 b] w fun e w' => e = .returned (.int .u64 (GM.bitsOf b : Nat)) ∧ w = w' := by
  have h1 := run_bits b w
  have LB := Lib.hid lb
  clear lb
  cases h : GM.nan b with
  | true =>
    have H := Lib.hid h
    clear h
    go_enter Try.func18, Try.ntmps18
    go_wp2_with (go_at_call 59; refine (isNaN_any LB.out _).mono ?_; rw [H.out]; rintro e w1 ⟨rfl, rfl⟩)
    go_ret
    exact ⟨by unfold GM.bitsOf; rw [H.out]; rfl, rfl⟩
  | false =>
    have H := Lib.hid h
    clear h
    go_enter Try.func18, Try.ntmps18
    go_wp2_with (go_at_call 59; refine (isNaN_any LB.out _).mono ?_; rw [H.out]; rintro e w1 ⟨rfl, rfl⟩)
    go_ret
    exact ⟨by unfold GM.bitsOf; rw [H.out]; rfl, rfl⟩
theorem rbits_any {b : Nat} (lb : B64 b) (w : World) : Calls Try.prog 10 #[.float .f64 b] w fun e w' => e = .returned (.int .u64 (GM.bitsOf b : Nat)) ∧ w = w' := by
  have h1 := run_bits b w
  have h2 : (FloatKind.f64.format.order b b != some .eq) = GM.nan b := GM.self_ne lb
  clear lb
  cases h : GM.nan b with
  | true =>
    rw [h] at h2
    have H := Lib.hid h
    clear h
    go_enter Try.func10, Try.ntmps10
    go_wp2
    go_ret
    exact ⟨by unfold GM.bitsOf; rw [H.out]; rfl, rfl⟩
  | false =>
    rw [h] at h2
    have H := Lib.hid h
    clear h
    go_enter Try.func10, Try.ntmps10
    go_wp2
    go_ret
    exact ⟨by unfold GM.bitsOf; rw [H.out]; rfl, rfl⟩

theorem gabove_any {a b : Nat} (la : B64 a) (lb : B64 b) (w : World) : Calls Try.prog 52 #[.float .f64 a, .float .f64 b] w fun e w' => e = .returned (.bool (GM.above a b)) ∧ w = w' := by
  have ha : (FloatKind.f64.format.order a 0 == some .eq) = decide (a = 0 ∨ a = 9223372036854775808) := GM.zero_eq la
  have hb : (FloatKind.f64.format.order b 0 == some .eq) = decide (b = 0 ∨ b = 9223372036854775808) := GM.zero_eq lb
  have LA := Lib.hid la
  have LB := Lib.hid lb
  clear la lb
  cases hn : GM.nan b with
  | true =>
    have H := Lib.hid hn
    have HA := Lib.hid (GM.above_nan (a := a) hn)
    clear hn ha hb
    cases hm : GM.nan a with
    | true =>
      have M := Lib.hid hm
      clear hm
      go_enter Try.func52, Try.ntmps52
      go_wp2_with (first
        | (go_at_call 59; (with_reducible refine (isNaN_any LB.out _).mono ?_); rw [H.out]; rintro e w1 ⟨rfl, rfl⟩)
        | (go_at_call 59; (with_reducible refine (isNaN_any LA.out _).mono ?_); rw [M.out]; rintro e w1 ⟨rfl, rfl⟩))
      go_ret
      exact ⟨by rw [HA.out, M.out]; rfl, rfl⟩
    | false =>
      have M := Lib.hid hm
      clear hm
      go_enter Try.func52, Try.ntmps52
      go_wp2_with (first
        | (go_at_call 59; (with_reducible refine (isNaN_any LB.out _).mono ?_); rw [H.out]; rintro e w1 ⟨rfl, rfl⟩)
        | (go_at_call 59; (with_reducible refine (isNaN_any LA.out _).mono ?_); rw [M.out]; rintro e w1 ⟨rfl, rfl⟩))
      go_ret
      exact ⟨by rw [HA.out, M.out]; rfl, rfl⟩
  | false =>
    have H := Lib.hid hn
    by_cases za : a = 0 ∨ a = 9223372036854775808
    · by_cases zb : b = 0 ∨ b = 9223372036854775808
      · have HZ := Lib.hid (GM.above_zero za zb)
        rw [decide_eq_true za] at ha
        rw [decide_eq_true zb] at hb
        clear hn za zb
        by_cases sa : 9223372036854775808 ≤ a
        · have SA : Hid (decide (9223372036854775808 ≤ a) = true) := Lib.hid (by simpa using sa)
          have RA : Hid (decide (a < 9223372036854775808) = false) := Lib.hid (by simpa using sa)
          clear sa
          go_enter Try.func52, Try.ntmps52
          go_wp2_with (first
            | (go_at_call 59; (with_reducible refine (isNaN_any LB.out _).mono ?_); rw [H.out]; rintro e w1 ⟨rfl, rfl⟩)
            | (go_at_call 80; (with_reducible refine (signbit_any LA.out _).mono ?_); rw [SA.out]; rintro e w1 ⟨rfl, rfl⟩)
            | (go_at_call 80; (with_reducible refine (signbit_any LB.out _).mono ?_); rintro e w1 ⟨rfl, rfl⟩))
          go_ret
          exact ⟨by rw [HZ.out, RA.out]; rfl, rfl⟩
        · have SA : Hid (decide (9223372036854775808 ≤ a) = false) := Lib.hid (by simpa using sa)
          have RA : Hid (decide (a < 9223372036854775808) = true) := Lib.hid (by simp; omega)
          clear sa
          go_enter Try.func52, Try.ntmps52
          go_wp2_with (first
            | (go_at_call 59; (with_reducible refine (isNaN_any LB.out _).mono ?_); rw [H.out]; rintro e w1 ⟨rfl, rfl⟩)
            | (go_at_call 80; (with_reducible refine (signbit_any LA.out _).mono ?_); rw [SA.out]; rintro e w1 ⟨rfl, rfl⟩)
            | (go_at_call 80; (with_reducible refine (signbit_any LB.out _).mono ?_); rintro e w1 ⟨rfl, rfl⟩))
          go_ret
          exact ⟨by rw [HZ.out, RA.out]; rfl, rfl⟩
      · have hg : (FloatKind.f64.format.order a b == some .gt) = GM.above a b := GM.above_gt LA.out LB.out hn (fun k => zb k.2)
        have HG := Lib.hid hg
        rw [decide_eq_true za] at ha
        rw [decide_eq_false zb] at hb
        clear hn za zb hg
        go_enter Try.func52, Try.ntmps52
        go_wp2_with (go_at_call 59; (with_reducible refine (isNaN_any LB.out _).mono ?_); rw [H.out]; rintro e w1 ⟨rfl, rfl⟩)
        go_ret
        exact ⟨by rw [← HG.out]; rfl, rfl⟩
    · have hg : (FloatKind.f64.format.order a b == some .gt) = GM.above a b := GM.above_gt LA.out LB.out hn (fun k => za k.1)
      have HG := Lib.hid hg
      rw [decide_eq_false za] at ha
      clear hn za hg hb
      go_enter Try.func52, Try.ntmps52
      go_wp2_with (go_at_call 59; (with_reducible refine (isNaN_any LB.out _).mono ?_); rw [H.out]; rintro e w1 ⟨rfl, rfl⟩)
      go_ret
      exact ⟨by rw [← HG.out]; rfl, rfl⟩
end Go.Proofs.Ytcocegneegjcpaa
