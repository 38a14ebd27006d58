/- THE WALKS of the document's semaphore: steps by kind and place. -/
import Derived.Test.YtamigipljgijlaaNx
namespace Go.Proofs.Ytamigipljgijlaa
open Go Go.RowKit
set_option maxRecDepth 100000
set_option maxHeartbeats 6400000
theorem ranswer_op {o : OpS} {u : DocS} (hi : InvS o u) (w : World) : Calls Try.prog 14 #[.agg (undS o.k u).toArray] w fun e w' => e = .returned (.tuple #[.int .u64 o.ans, .int .i64 o.why]) ∧ Below w.heap.size w w' := by
  obtain ⟨k, ph, a, b, ans, why⟩ := o
  obtain ⟨ap, fi, la, en, su, wy⟩ := u
  show Calls Try.prog 14 #[.agg #[.int .u8 k, .int .i64 ap, .int .u64 fi, .int .u64 la, .bool en, .int .u64 su, .int .i64 wy]] w _
  rcases hi with ⟨_, h1, h2, h3, h4⟩ | ⟨_, h1, h2, h3, h4, _⟩
  · dsimp only at h1 h2 h3 h4 ⊢
    subst h1 h2
    by_cases hw : wy = 0
    · subst hw
      obtain rfl := h3 rfl
      clear h3 h4
      go_enter Try.func14, Try.ntmps14
      go_wp2
      go_ret2
      exact ⟨rfl, (Below.refl _ _).alloc (Nat.le_refl _) _⟩
    · obtain rfl := h4 hw
      have hb : (wy != 0) = true := by simpa using hw
      clear h3 h4 hw
      go_enter Try.func14, Try.ntmps14
      go_wp2
      go_region
      all_goals
        go_wp2
        go_ret2
        exact ⟨rfl, by repeat (first | (with_reducible exact Below.refl _ _) | (with_reducible refine Below.drew ?_) | (with_reducible refine Below.draws ?_ _) | (with_reducible refine Below.alloc ?_ (Nat.le_refl _) _))⟩
  · dsimp only at h1 h2 h3 h4 ⊢
    subst h1 h2 h3 h4
    go_enter Try.func14, Try.ntmps14
    go_wp2
    go_region
    all_goals
      go_wp2
      go_ret2
      exact ⟨rfl, by repeat (first | (with_reducible exact Below.refl _ _) | (with_reducible refine Below.drew ?_) | (with_reducible refine Below.draws ?_ _) | (with_reducible refine Below.alloc ?_ (Nat.le_refl _) _))⟩
end Go.Proofs.Ytamigipljgijlaa
