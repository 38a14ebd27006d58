/- THE WALKS of what is greater, of lowest terms, of what a rate brings and what so many cost. -/
import Derived.Test.YthbphanlmhghdaaDoorWd
import Derived.Deep.RegionHeld3
namespace Go.Proofs.YthbphanlmhghdaaDoor
open Go.RowKit

/-! ### over -/
def quoV (n d : Int) : Int := if n / d ≤ 2305843009213693952 then n / d else 2305843009213693953
def quoR (n d : Int) : Int := if n / d ≤ 2305843009213693952 then n % d else 0
theorem below_drewN {B : Nat} {a w : World} (h : Below B a w) (n : Nat) : Below B a (w.drewN n) := ⟨h.os, h.tape, h.output, h.size, h.block⟩
theorem quo_great {n d : Int} (hd : 1 ≤ d) (h : d ≤ n / 18446744073709551616) : ¬ n / d ≤ 2305843009213693952 := by
  have : 18446744073709551616 ≤ n / d := Int.le_ediv_of_mul_le (by omega) (by omega)
  omega

theorem over_any (n d : Int) (w : World) (hn : 0 ≤ n) (hd : 1 ≤ d) (hd' : d ≤ 2305843009213693952) :
    Calls Tryd.prog 53 #[.agg #[.int .u64 (n / 18446744073709551616), .int .u64 (n % 18446744073709551616)], .int .i64 d] w fun e w' => e = .returned (.tuple #[.int .i64 (quoV n d), .int .u64 (quoR n d)]) ∧ Below w.heap.size w w' := by
  have hm0 : 0 ≤ n % 18446744073709551616 := by omega
  have hm1 : n % 18446744073709551616 ≤ 18446744073709551615 := by omega
  have hh0 : 0 ≤ n / 18446744073709551616 := by omega
  have hq0 : 0 ≤ n / d := Int.ediv_nonneg hn (by omega)
  have hq : (n / 18446744073709551616 * 18446744073709551616 + n % 18446744073709551616) = n := by omega
  have HQ := Lib.hid hq
  clear hq
  obtain ⟨H, hH⟩ : ∃ H, H = n / 18446744073709551616 := ⟨_, rfl⟩
  obtain ⟨L, hL⟩ : ∃ L, L = n % 18446744073709551616 := ⟨_, rfl⟩
  rw [← hH] at hh0 HQ
  rw [← hL] at hm0 hm1 HQ
  rw [← hH, ← hL]
  have HH := Lib.hid hH
  clear hH hL
  by_cases hg : d ≤ H
  · have hng := quo_great hd (HH.out ▸ hg)
    rw [quoV, quoR, if_neg hng, if_neg hng]
    go_enter Tryd.func53, Tryd.ntmps53
    go_wp2
    go_ret2
    exact ⟨rfl, (Below.refl _ _).alloc (Nat.le_refl _) _⟩
  · by_cases hs : n / d ≤ 2305843009213693952
    · rw [quoV, quoR, if_pos hs, if_pos hs]
      have hs' : n / d ≤ 2305843009213693952 := hs
      go_enter Tryd.func53, Tryd.ntmps53
      go_wp2_with (go_at_call 61; refine (div64_any _ _ _ _ hh0 (by omega) hm0 hm1 (by omega)).mono ?_; rw [HQ.out]; rintro e w' ⟨rfl, k, rfl⟩)
      go_ret2
      exact ⟨rfl, below_drewN ((Below.refl _ _).alloc (Nat.le_refl _) _) _⟩
    · rw [quoV, quoR, if_neg hs, if_neg hs]
      go_enter Tryd.func53, Tryd.ntmps53
      go_wp2_with (go_at_call 61; refine (div64_any _ _ _ _ hh0 (by omega) hm0 hm1 (by omega)).mono ?_; rw [HQ.out]; rintro e w' ⟨rfl, k, rfl⟩)
      go_ret2
      exact ⟨rfl, below_drewN ((Below.refl _ _).alloc (Nat.le_refl _) _) _⟩

/-! ### what is greater -/
theorem cmp_any (x y : Int) (w : World) :
    Calls Tryd.prog 60 #[.int .u64 x, .int .u64 y] w fun e w' => e = .returned (.int .i64 (TM.cmpI x y)) ∧ w = w' := by
  rcases TM.cmpI_vals x y with ⟨h, hlt⟩ | ⟨h, hlt⟩ | ⟨h, hlt⟩
  · rw [h]
    go_enter Tryd.func60, Tryd.ntmps60
    go_wp2
    go_ret
    exact ⟨rfl, rfl⟩
  · subst hlt
    rw [h]
    go_enter Tryd.func60, Tryd.ntmps60
    go_wp2
    go_ret
    exact ⟨rfl, rfl⟩
  · rw [h]
    go_enter Tryd.func60, Tryd.ntmps60
    go_wp2
    go_ret
    exact ⟨rfl, rfl⟩
theorem cmp_words (x y : Int) (h : x / 18446744073709551616 ≠ y / 18446744073709551616) : TM.cmpI x y = TM.cmpI (x / 18446744073709551616) (y / 18446744073709551616) ∧ (TM.cmpI (x / 18446744073709551616) (y / 18446744073709551616) != 0) = true := by
  constructor
  · unfold TM.cmpI; repeat' split <;> omega
  · rcases TM.cmpI_vals (x / 18446744073709551616) (y / 18446744073709551616) with ⟨a, b⟩ | ⟨a, b⟩ | ⟨a, b⟩
    · rw [a]; rfl
    · exact absurd b h
    · rw [a]; rfl
theorem cmp_words' (x y : Int) (h : x / 18446744073709551616 = y / 18446744073709551616) : TM.cmpI x y = TM.cmpI (x % 18446744073709551616) (y % 18446744073709551616) := by
  unfold TM.cmpI; repeat' split <;> omega
theorem cmp_self (x : Int) : TM.cmpI x x = 0 := by unfold TM.cmpI; rw [if_neg (by omega), if_pos rfl]

theorem compare_words (x y : Int) (w : World) (hx : 0 ≤ x) (hy : 0 ≤ y) :
    Calls Tryd.prog 51 #[.agg #[.int .u64 (x / 18446744073709551616), .int .u64 (x % 18446744073709551616)], .agg #[.int .u64 (y / 18446744073709551616), .int .u64 (y % 18446744073709551616)]] w
      fun e w' => e = .returned (.int .i64 (TM.cmpI x y)) ∧ Below w.heap.size w w' := by
  by_cases h : x / 18446744073709551616 = y / 18446744073709551616
  · have h2 := cmp_words' x y h
    have h0 := cmp_self (y / 18446744073709551616)
    have H2 := Lib.hid h2
    have b1 : 0 ≤ x % 18446744073709551616 ∧ x % 18446744073709551616 ≤ 18446744073709551615 := by omega
    have b2 : 0 ≤ y % 18446744073709551616 ∧ y % 18446744073709551616 ≤ 18446744073709551615 := by omega
    rw [h]
    clear h2 h
    rw [H2.out]
    generalize x % 18446744073709551616 = xl at *
    generalize y % 18446744073709551616 = yl at *
    have b3 : 0 ≤ y / 18446744073709551616 := by omega
    generalize y / 18446744073709551616 = yh at *
    obtain ⟨b1, b1'⟩ := b1
    obtain ⟨b2, b2'⟩ := b2
    go_enter Tryd.func51, Tryd.ntmps51
    go_wp2_with (go_at_call 60; refine (cmp_any _ _ _).mono ?_; rintro e w' ⟨rfl, rfl⟩)
    go_ret
    exact ⟨rfl, ((Below.refl _ _).alloc (Nat.le_refl _) _).alloc (by simp) _⟩
  · obtain ⟨h2, h3⟩ := cmp_words x y h
    rw [h2]
    have b3 : 0 ≤ y / 18446744073709551616 := by omega
    have b4 : 0 ≤ x / 18446744073709551616 := by omega
    clear h2 h
    generalize x % 18446744073709551616 = xl at *
    generalize y % 18446744073709551616 = yl at *
    generalize y / 18446744073709551616 = yh at *
    generalize x / 18446744073709551616 = xh at *
    go_enter Tryd.func51, Tryd.ntmps51
    go_wp2_with (go_at_call 60; refine (cmp_any _ _ _).mono ?_; rintro e w' ⟨rfl, rfl⟩)
    go_ret
    exact ⟨rfl, ((Below.refl _ _).alloc (Nat.le_refl _) _).alloc (by simp) _⟩
end Go.Proofs.YthbphanlmhghdaaDoor
