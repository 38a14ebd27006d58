/- PLAIN MATHEMATICS: the greatest float of a bucket. No program. -/
import Derived.Test.YtaeffkgnfbomdaaExp
namespace Go.Proofs.Ytaeffkgnfbomdaa.FL
open Go
def IsTop (s i : Int) (F : Nat) : Prop := inB s i F ∧ ∀ c, inB s i c → c ≤ F
theorem inB_zero (s i : Int) : inB s i 0 := ⟨by omega, .inl rfl⟩
theorem top_upto (s i : Int) : ∀ n : Nat, ∃ F, inB s i F ∧ ∀ c, c ≤ n → inB s i c → c ≤ F := by
  intro n
  induction n with
  | zero => exact ⟨0, inB_zero s i, fun c h _ => h⟩
  | succ n ih =>
    obtain ⟨F, h1, h2⟩ := ih
    rcases Classical.em (inB s i (n + 1)) with h | h
    · exact ⟨n + 1, h, fun c hc _ => hc⟩
    · refine ⟨F, h1, fun c hc hi => ?_⟩
      by_cases he : c = n + 1
      · subst he; exact absurd hi h
      · exact h2 c (by omega) hi
theorem top_exists (s i : Int) : ∃ F, IsTop s i F := by
  obtain ⟨F, h1, h2⟩ := top_upto s i 9218868437227405311
  exact ⟨F, h1, fun c hc => h2 c hc.1 hc⟩
theorem top_unique {s i : Int} {F G : Nat} (h : IsTop s i F) (g : IsTop s i G) : F = G := Nat.le_antisymm (g.2 _ h.1) (h.2 _ g.1)
theorem top_max {s i : Int} {F : Nat} (h : IsTop s i F) : F ≤ 9218868437227405311 := h.1.1
/-- the state of the search for it: what is found; p places are left -/
def GAt (s i : Int) (F p : Nat) : Prop := p ≤ 63 ∧ (∃ a, F = a * 2 ^ p) ∧ F + 2 ^ p ≤ 9223372036854775808 ∧ inB s i F ∧ ∀ c, inB s i c → c < F + 2 ^ p
theorem g_start (s i : Int) : GAt s i 0 63 := ⟨by omega, ⟨0, by omega⟩, by omega, inB_zero s i, fun c hc => by have := hc.1; omega⟩
theorem g_yes {s i : Int} {F q : Nat} (h : GAt s i F (q + 1)) (hy : inB s i (F + 2 ^ q)) : GAt s i (F + 2 ^ q) q := by
  obtain ⟨h1, ⟨a, rfl⟩, h3, h4, h5⟩ := h
  rw [Nat.pow_succ] at h3 h5
  refine ⟨by omega, ⟨2 * a + 1, ?_⟩, ?_, hy, fun c hc => ?_⟩
  · rw [Nat.pow_succ, Nat.add_mul, Nat.one_mul, Nat.mul_comm 2 a, Nat.mul_assoc, Nat.mul_comm (2 ^ q) 2]
  · rw [Nat.pow_succ]; omega
  · have := h5 c hc; rw [Nat.pow_succ]; omega
theorem g_no {s i : Int} {F q : Nat} (h : GAt s i F (q + 1)) (hy : ¬ inB s i (F + 2 ^ q)) : GAt s i F q := by
  obtain ⟨h1, ⟨a, rfl⟩, h3, h4, h5⟩ := h
  have hq := Nat.two_pow_pos q
  refine ⟨by omega, ⟨2 * a, ?_⟩, ?_, h4, fun c hc => ?_⟩
  · rw [Nat.pow_succ, Nat.mul_comm 2 a, Nat.mul_assoc, Nat.mul_comm (2 ^ q) 2]
  · rw [Nat.pow_succ] at h3 ⊢; omega
  · rcases Nat.lt_or_ge c (a * 2 ^ (q + 1) + 2 ^ q) with h | h
    · exact h
    · exact absurd (inB_down hc h) hy
theorem g_end {s i : Int} {F : Nat} (h : GAt s i F 0) : IsTop s i F := by
  obtain ⟨h1, h2, h3, h4, h5⟩ := h
  exact ⟨h4, fun c hc => by have := h5 c hc; simp at this; omega⟩
theorem g_or {s i : Int} {F q : Nat} (h : GAt s i F (q + 1)) : (∃ a, F = a * 2 ^ (q + 1)) ∧ F + 2 ^ q < 9223372036854775808 ∧ 0 < F + 2 ^ q := by
  obtain ⟨h1, h2, h3, h4, h5⟩ := h
  have hq := Nat.two_pow_pos q
  rw [Nat.pow_succ] at h3
  exact ⟨h2, by omega, by omega⟩
theorem in_yes {s i : Int} {b : Nat} (h0 : 0 < b) (h1 : b ≤ 9218868437227405311) : inB s i b ↔ bk s b ≤ i := by
  constructor
  · intro h; rcases h.2 with h2 | h2
    · omega
    · exact h2
  · intro h; exact ⟨h1, .inr h⟩
end Go.Proofs.Ytaeffkgnfbomdaa.FL
