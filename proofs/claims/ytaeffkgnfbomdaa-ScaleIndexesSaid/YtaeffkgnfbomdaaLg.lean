/- THE LAWS 'ScaleParts' and 'ScaleDigits', whatever comes in. -/
import Derived.Test.YtaeffkgnfbomdaaLe
import Derived.Test.YtaeffkgnfbomdaaLf
namespace Go.Proofs.Ytaeffkgnfbomdaa
open Go.RowKit
theorem bounds_all {l h d : Int} (r : rightB l h d = true) (i : Int) : ∃ f g e : Int, (∀ w, Calls Try.prog 16 #[.agg #[.int .i64 l, .int .i64 h, .int .i64 d], .int .i64 i] w fun e' w' => e' = .returned (.tuple #[.int .i64 f, .int .i64 g, .int .i64 e]) ∧ Below w.heap.size w w')
    ∧ ((e = 2 ∧ f = 0 ∧ g = 0 ∧ (i < 0 ∨ nI l h d ≤ i)) ∨ (e = 0 ∧ f = loI l d i ∧ g = hiI l d i ∧ 0 ≤ i ∧ i < nI l h d)) ∧ 0 ≤ g ∧ g ≤ 4611687117939015680 := by
  by_cases hi : i < 0 ∨ nI l h d ≤ i
  · exact ⟨0, 0, 2, fun w => bounds_off r w hi, .inl ⟨rfl, rfl, rfl, hi⟩, by omega, by omega⟩
  · have h1 := lo_hi r (i := i) (by omega) (by omega)
    exact ⟨loI l d i, hiI l d i, 0, fun w => bounds_in r w (by omega) (by omega), .inr ⟨rfl, rfl, rfl, by omega, by omega⟩, by omega, by omega⟩
theorem index_all {l h d : Int} (r : rightB l h d = true) (u : Int) : ∃ b e : Int, (∀ w, Calls Try.prog 14 #[.agg #[.int .i64 l, .int .i64 h, .int .i64 d], .int .i64 u] w fun e' w' => e' = .returned (.tuple #[.int .i64 b, .int .i64 e]) ∧ Below w.heap.size w w')
    ∧ ((e = 2 ∧ b = 0 ∧ (u < 0 ∨ h < u)) ∨ (e = 0 ∧ b = aI l d u ∧ 0 ≤ u ∧ u ≤ h)) := by
  by_cases hu : u < 0 ∨ h < u
  · exact ⟨0, 2, fun w => sindex_out r hu w, .inl ⟨rfl, rfl, hu⟩⟩
  · exact ⟨aI l d u, 0, fun w => index_in r w (by omega) (by omega), .inr ⟨rfl, rfl, by omega, by omega⟩⟩
theorem parts_any (l h d v u i : Int) (w : World) : Calls Try.prog 5 #[.agg #[.int .i64 l, .int .i64 h, .int .i64 d], .int .i64 v, .int .i64 u, .int .i64 i] w fun e w' => e = .returned (.bool true) ∧ Below w.heap.size w w' := by
  cases r : rightB l h d with
  | false => exact parts_wrong r w
  | true =>
    by_cases hv : v < 0
    · exact parts_out1 r hv w
    by_cases hv2 : h < v
    · exact parts_out2 r (by omega) hv2 w
    obtain ⟨a0, a1, a2, a3⟩ := a_in r (v := v) (by omega) (by omega)
    obtain ⟨b, ub, HU, hu⟩ := index_all r u
    obtain ⟨f, g, e1, HI, hi, hg⟩ := bounds_all r i
    obtain ⟨f2, g2, e2, HJ, hj, hg2, hg3⟩ := bounds_all r (i - 1)
    have hn := n_in r
    refine parts_x (Lib.hid fun w => count_in r w) (Lib.hid fun w => index_in r w (v := v) (by omega) (by omega)) (Lib.hid fun w => bounds_in r w a0 a1) (Lib.hid HU) (Lib.hid ?_) (Lib.hid HI) (Lib.hid HJ) (Lib.hid ?_) hn.2 hg2 hg3 a0 a1 a2 a3 w
    · rcases hu with ⟨rfl, _⟩ | ⟨rfl, rfl, u0, u1⟩
      · exact .inl rfl
      · obtain ⟨c0, c1, c2, c3⟩ := a_in r u0 u1
        by_cases he : aI l d v = aI l d u
        · rw [he]
          by_cases hvu : v ≤ u
          · exact .inr (.inl ⟨rfl, hvu, rfl, c2, c3⟩)
          · exact .inr (.inr (.inr (.inl ⟨rfl, by omega, rfl, c2, c3⟩)))
        · by_cases hvu : v ≤ u
          · have := a_mono r (v := v) (w := u) (by omega) hvu u1
            exact .inr (.inr (.inl ⟨rfl, by
              rcases Int.lt_or_le v u with h1 | h1
              · exact h1
              · exact absurd (by rw [show v = u by omega]) he, by omega⟩))
          · have := a_mono r (v := u) (w := v) (by omega) (by omega) (by omega)
            exact .inr (.inr (.inr (.inr ⟨rfl, by omega, by omega⟩)))
    · rcases hi with ⟨rfl, rfl, rfl, h1⟩ | ⟨rfl, rfl, rfl, h1, h2⟩
      · by_cases h3 : i < 0
        · exact .inl ⟨rfl, h3⟩
        · exact .inr (.inl ⟨rfl, by omega, by omega⟩)
      · by_cases h3 : i = 0
        · subst h3
          rcases hj with ⟨rfl, rfl, rfl, _⟩ | ⟨_, _, _, h4, _⟩
          · exact .inr (.inr (.inl ⟨rfl, rfl, rfl, lo_zero l d⟩))
          · omega
        · rcases hj with ⟨_, _, _, h4⟩ | ⟨rfl, rfl, rfl, h4, h5⟩
          · omega
          · have hs := hi_step (l := l) (d := d) (i := i) (by omega)
            have hl := lo_hi r h1 h2
            by_cases h6 : i = nI l h d - 1
            · have hla := last_in r
              rw [← h6] at hla
              exact .inr (.inr (.inr (.inr ⟨rfl, rfl, by omega, h6, hs, by omega, hla.1, hla.2⟩)))
            · exact .inr (.inr (.inr (.inl ⟨rfl, rfl, by omega, by omega, hs, by omega⟩)))
theorem digits_any (l h d i : Int) (w : World) : Calls Try.prog 6 #[.agg #[.int .i64 l, .int .i64 h, .int .i64 d], .int .i64 i] w fun e w' => e = .returned (.bool true) ∧ Below w.heap.size w w' := by
  cases r : rightB l h d with
  | false => exact digits_wrong r w
  | true =>
    by_cases hi : i < 0 ∨ nI l h d ≤ i
    · exact digits_off r hi w
    have hm := digits_int r (i := i) (by omega) (by omega)
    obtain ⟨h0, h1, h2, h3⟩ := lo_hi r (i := i) (by omega) (by omega)
    have HC := Lib.hid (fun w => bounds_in r w (i := i) (by omega) (by omega))
    obtain ⟨a1, a2, a3, a4, a5, a6⟩ := right_of r
    obtain rfl | rfl | rfl : d = 1 ∨ d = 2 ∨ d = 3 := by omega
    · exact digits1 a1 a2 HC h0 h1 h2 h3 (Lib.hid hm) w
    · exact digits2 a1 a2 HC h0 h1 h2 h3 (Lib.hid hm) w
    · exact digits3 a1 a2 HC h0 h1 h2 h3 (Lib.hid hm) w
end Go.Proofs.Ytaeffkgnfbomdaa
