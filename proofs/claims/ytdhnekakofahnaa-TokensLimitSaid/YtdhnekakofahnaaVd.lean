/- THE WALK of the law 'TokensLimit': the mathematics; Most. -/
import Derived.Test.YtdhnekakofahnaaVc
namespace Go.Proofs.Ytdhnekakofahnaa
open Go Go.RowKit

/-- tokens that were given, one behind the other: the word ahead, the moment, how many; what the word is behind them all -/
inductive ChainT (ev bu : Int) : List (Int × Int × Int) → Int → Prop
  | nil (T : Int) : ChainT ev bu [] T
  | snoc {l : List (Int × Int × Int)} {T t n : Int} (h : ChainT ev bu l T) (ht : 0 ≤ t ∧ t ≤ 2305843009213693952) (hn : 1 ≤ n ∧ n ≤ 1048576) (hg : max T t + n * ev ≤ t + bu * ev) : ChainT ev bu (l ++ [(T, t, n)]) (max T t + n * ev)
section
variable {ev bu T : Int} {l : List (Int × Int × Int)}
theorem ChainT.get (h : ChainT ev bu l T) : ∀ (k : Nat) (x : Int × Int × Int), l[k]? = some x → (0 ≤ x.2.1 ∧ x.2.1 ≤ 2305843009213693952) ∧ (1 ≤ x.2.2 ∧ x.2.2 ≤ 1048576) ∧ max x.1 x.2.1 + x.2.2 * ev ≤ x.2.1 + bu * ev := by
  induction h with
  | nil => intro k x hx; simp at hx
  | snoc h ht hn hg ih =>
    intro k x hx
    rename_i l T t n
    by_cases hk : k < l.length
    · rw [List.getElem?_append_left hk] at hx
      exact ih k x hx
    · rw [List.getElem?_append_right (by omega)] at hx
      have : k - l.length = 0 := by have := lt_of_get hx; simp at this; omega
      rw [this] at hx
      simp at hx
      subst hx
      exact ⟨ht, hn, hg⟩
theorem ChainT.last (h : ChainT ev bu l T) : ∀ (k : Nat) (x : Int × Int × Int), l[k]? = some x → k + 1 = l.length → T = max x.1 x.2.1 + x.2.2 * ev := by
  cases h with
  | nil => intro k x hx; simp at hx
  | snoc h ht hn hg =>
    intro k x hx hk
    rename_i l T t n
    rw [List.getElem?_append_right (by simp at hk; omega)] at hx
    have : k - l.length = 0 := by simp at hk; omega
    rw [this] at hx
    simp at hx
    subst hx
    rfl
theorem ChainT.next (h : ChainT ev bu l T) : ∀ (k : Nat) (x y : Int × Int × Int), l[k]? = some x → l[k + 1]? = some y → y.1 = max x.1 x.2.1 + x.2.2 * ev := by
  induction h with
  | nil => intro k x y hx; simp at hx
  | snoc h ht hn hg ih =>
    intro k x y hx hy
    rename_i l T t n
    by_cases hk : k + 1 < l.length
    · rw [List.getElem?_append_left (by omega)] at hx
      rw [List.getElem?_append_left hk] at hy
      exact ih k x y hx hy
    · have hl : k + 1 = l.length := by have := lt_of_get hy; simp at this; omega
      rw [List.getElem?_append_left (by omega)] at hx
      rw [List.getElem?_append_right (by omega)] at hy
      rw [hl, Nat.sub_self] at hy
      simp at hy
      subst hy
      exact h.last k x hx hl
end

/-- what is known ahead of the k-th of a run that began at the i-th -/
structure RunAt (ev bu : Int) (l : List (Int × Int × Int)) (i k : Nat) (least most sum : Int) : Prop where
  ik : i ≤ k
  lo : 0 ≤ least
  hi : most ≤ 2305843009213693952
  le : least ≤ most
  s0 : 0 ≤ sum
  s1 : sum ≤ 2305843009214742528
  low : ∀ x, l[k]? = some x → least + sum * ev ≤ max x.1 x.2.1
theorem RunAt.start {ev bu T : Int} {l : List (Int × Int × Int)} {i : Nat} {x : Int × Int × Int} (h : ChainT ev bu l T) (hx : l[i]? = some x) : RunAt ev bu l i i x.2.1 x.2.1 0 := by
  obtain ⟨h1, _⟩ := h.get i x hx
  refine ⟨Nat.le_refl _, h1.1, h1.2, by omega, by omega, by omega, fun y hy => ?_⟩
  rw [hx] at hy
  cases hy
  omega
/-- and behind it -/
theorem RunAt.next {ev bu T : Int} {l : List (Int × Int × Int)} {i k : Nat} {least most sum least' most' : Int} {x : Int × Int × Int} (hf : fitsB ev bu = true) (h : ChainT ev bu l T) (hr : RunAt ev bu l i k least most sum) (hx : l[k]? = some x)
    (hl : least' = if x.2.1 < least then x.2.1 else least) (hm : most' = if most < x.2.1 then x.2.1 else most) :
    RunAt ev bu l i (k + 1) least' most' (sum + x.2.2) ∧ sum + x.2.2 ≤ bu + (most' - least') / ev := by
  obtain ⟨a, b, c, d⟩ := fits_bounds hf
  obtain ⟨⟨t0, t1⟩, ⟨n0, n1⟩, hg⟩ := h.get k x hx
  have h0 := hr.low x hx
  have e1 : (sum + x.2.2) * ev = sum * ev + x.2.2 * ev := Int.add_mul ..
  have q0 := hr.lo
  have q1 := hr.hi
  have q2 := hr.le
  have q3 := hr.s0
  have q4 := hr.ik
  have hll : least' ≤ least ∧ least' ≤ x.2.1 ∧ 0 ≤ least' := by subst hl; split <;> omega
  have hmm : most ≤ most' ∧ x.2.1 ≤ most' ∧ most' ≤ 2305843009213693952 := by subst hm; split <;> omega
  have hb : sum + x.2.2 ≤ bu + (most' - least') / ev := by
    have h1 : (sum + x.2.2 - bu) * ev ≤ most' - least' := by
      rw [Int.sub_mul, e1]
      omega
    have h2 := (Int.le_ediv_iff_mul_le (show 0 < ev by omega)).2 h1
    omega
  have hd : (most' - least') / ev ≤ most' - least' := by
    have := Int.ediv_le_self ev (show 0 ≤ most' - least' by omega)
    exact this
  refine ⟨⟨by omega, by omega, by omega, by omega, by omega, by omega, fun y hy => ?_⟩, hb⟩
  have hn := h.next k x y hx hy
  rw [e1]
  omega

set_option maxRecDepth 100000
/-- Most -/
theorem tmost_yes {ev bu a b : Int} (hf : fitsB ev bu = true) (ha : 0 ≤ a) (hab : a ≤ b) (hb : b ≤ 2305843009213693952) (w : World) :
    Calls Try.prog 61 #[.int .i64 ev, .int .i64 bu, .int .i64 a, .int .i64 b] w fun e w' => e = .returned (.tuple #[.int .i64 (bu + (b - a) / ev), .int .i64 0]) ∧ w = w' := by
  have HF := Lib.hid hf
  obtain ⟨f0, f1, f2, f3⟩ := fits_bounds hf
  have hma : momB a = true := by simp [momB]; omega
  have hmb : momB b = true := by simp [momB]; omega
  have HMA := Lib.hid hma
  have HMB := Lib.hid hmb
  have hd0 : 0 ≤ (b - a) / ev := Int.ediv_nonneg (by omega) (by omega)
  have hd1 : (b - a) / ev ≤ 2305843009213693952 := by
    have := Int.ediv_le_self ev (show 0 ≤ b - a by omega)
    omega
  have hev : ¬ ev = 0 := by omega
  have hba : decide (b < a) = false := by simp; omega
  clear hf hma hmb
  go_enter Try.func61, Try.ntmps61
  go_wp2_with (first
    | (go_at_call 85; refine (tsized_any _ _ _).mono ?_; rw [HF.out]; rintro e wx ⟨rfl, rfl⟩)
    | (go_at_call 92; (with_reducible refine (tmoment_any a _).mono ?_); rw [HMA.out]; rintro e wx ⟨rfl, rfl⟩)
    | (go_at_call 92; (with_reducible refine (tmoment_any b _).mono ?_); rw [HMB.out]; rintro e wx ⟨rfl, rfl⟩))
  go_ret2
  exact ⟨rfl, rfl⟩
end Go.Proofs.Ytdhnekakofahnaa
