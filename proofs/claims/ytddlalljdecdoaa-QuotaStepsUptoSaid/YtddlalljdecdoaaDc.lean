/- For 'QuotaSteps': the document's Fits where it says yes; an operation's answer ahead of its end; code and document side by side. -/
import Derived.Test.YtddlalljdecdoaaBz
import Derived.Test.YtddlalljdecdoaaDa
namespace Go.Proofs.Ytddlalljdecdoaa
open Go Go.RowKit
set_option maxRecDepth 100000
set_option maxHeartbeats 800000
theorem dfits_yes {limit ba n : Int} (h : FitsB limit ba n) (w : World) : Calls Try.prog 11 #[.int .i64 limit, .int .i64 ba, .int .i64 n] w fun e w' => e = .returned (.bool true) ∧ Below w.heap.size w w' := by
  obtain ⟨h0, h1, h2, h3, h4, h5⟩ := h
  have d0 : decide (0 ≤ limit) = true := by simpa using h0
  have d1 : decide (limit ≤ 1099511627776) = true := by simpa using h1
  have d2 : decide (1 ≤ ba) = true := by simpa using h2
  have d3 : decide (ba ≤ 1048576) = true := by simpa using h3
  have d4 : decide (1 ≤ n) = true := by simpa using h4
  have d5 : decide (n ≤ 64) = true := by simpa using h5
  clear h0 h1 h2 h3 h4 h5
  go_enter Try.func11, Try.ntmps11
  go_wp2
  go_ret
  exact ⟨rfl, by repeat (first | (with_reducible exact Below.refl _ _) | (with_reducible refine Below.drew ?_))⟩
/-- ahead of its end an operation's answer is nought -/
def StillB (o : OpB) : Prop := o.ph ≠ 9 → o.ans = 0
theorem StillB.new (k : Int) (wk : Nat) : StillB (newB k wk) := fun _ => rfl
theorem StillB.step {ba : Int} {ws : List Int} {o : OpB} (h : StillB o) : StillB (stepB ba ws o) := by
  unfold stepB
  repeat' split
  all_goals
    intro h9
    first
      | exact absurd rfl h9
      | (exact h (by assumption))
      | exact h h9
/-- the document's record and the code's operation say the same at every time -/
theorem InvB.says {o : OpB} {u : DocU} (h : InvB o u) (hs : StillB o) : u.ended = decide (o.ph = 9) ∧ u.ans = o.ans := by
  rcases h with ⟨a, b, c⟩ | ⟨a, b, c, _⟩
  · exact ⟨by rw [b]; simp [a], c⟩
  · exact ⟨by rw [b]; simp [a], by rw [c, hs a]⟩
theorem InvB.new {n wk : Nat} {k : Int} (hf : FineB n k wk) : InvB (newB k wk) ⟨0, 0, 0, 0, false, 0⟩ := by
  rcases hf with ⟨a, _⟩ | ⟨a, _⟩ | ⟨a, _⟩ <;> simp [InvB, newB, a]
end Go.Proofs.Ytddlalljdecdoaa
