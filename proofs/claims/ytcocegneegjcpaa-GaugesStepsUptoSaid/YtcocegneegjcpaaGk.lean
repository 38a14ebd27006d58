/- THE WALKS of the statements' own 'begun' and 'ended' of package gauges. -/
import Derived.Test.YtcocegneegjcpaaGj
import Derived.Deep.RegionHeld3
import Derived.Deep.LoopGhost
namespace Go.Proofs.Ytcocegneegjcpaa
open Go Go.RowKit

theorem ends_take {xs : List Nat} {j x : Nat} (k : Int) (h : xs[j]? = some x) : (xs.take (j + 1)).map (newG k) = (xs.take j).map (newG k) ++ [newG k x] := by
  rw [List.take_add_one, h]
  simp
theorem right_k {k : Int} (h : 3 ≤ k ∧ k ≤ 5) (x : Nat) : grightB k x = true := by
  unfold grightB
  have h1 : decide (2 ≤ k) = true := by simp; omega
  have h2 : decide (k ≤ 5) = true := by simp; omega
  rw [h1, h2]
  simp
/-- what 'begun' leaves -/
def BegunAll (W : World) (bg bk bw T : Nat) (os : List OpG) (e : Ending) (w' : World) : Prop := ∃ vp bs, e = .returned vp ∧ ManyG W bg bk bw T os bs vp w'

set_option maxRecDepth 100000
set_option maxHeartbeats 3200000
/-- what an operation has left to do alone -/
def leftG (T : Nat) (o : OpG) : Nat := if o.ph = 0 then 2 else if o.ph = 1 then (if T = o.saw then 1 else 3) else 0
theorem left_le (T : Nat) (o : OpG) : leftG T o ≤ 3 := by unfold leftG; repeat (first | omega | split)
theorem left_step {T : Nat} {o : OpG} (h : OkG o) (h2 : o.ph ≠ 2) : leftG (wordG T o) (stepG T o) + 1 ≤ leftG T o := by
  have hp := h.ph
  unfold leftG wordG stepG
  by_cases h0 : o.ph = 0
  · simp only [h0, if_true]
    by_cases k2 : o.k = 2
    · simp [k2]
    · simp only [k2, if_false]
      cases putG o.k o.x T <;> simp
  · have h1 : o.ph = 1 := by omega
    simp only [h1]
    by_cases e : T = o.saw <;> simp [e]
theorem left_none {T : Nat} {o : OpG} (h : OkG o) (h0 : leftG T o = 0) : o.ph = 2 := by
  have hp := h.ph
  unfold leftG at h0
  split at h0
  · omega
  · split at h0
    · split at h0 <;> omega
    · omega
/-- the j first have ended -/
def Over (os : List OpG) (j : Nat) : Prop := ∀ i o, i < j → os[i]? = some o → o.ph = 2
theorem Over.set {os : List OpG} {j q : Nat} {o : OpG} (h : Over os j) (hq : j ≤ q) : Over (os.set q o) j := fun i x hi hx => by
  rw [List.getElem?_set_ne (by omega)] at hx
  exact h i x hi hx
theorem Over.next {os : List OpG} {j : Nat} {o : OpG} (h : Over os j) (ho : os[j]? = some o) (h2 : o.ph = 2) : Over os (j + 1) := fun i x hi hx => by
  by_cases e : i = j
  · subst e; rw [ho] at hx; cases hx; exact h2
  · exact h i x (by omega) hx
/-- what stays, whichever operation is stepped -/
def Stays (I : Nat → List OpG → Prop) : Prop := ∀ T os (q : Nat) o, B64 T → os[q]? = some o → OkG o → I T os → I (wordG T o) (os.set q (stepG T o))
/-- what 'ended' leaves -/
def EndedAll (W : World) (bg bk bw : Nat) (I : Nat → List OpG → Prop) (bs : List Nat) (vp : Value) (e : Ending) (w' : World) : Prop :=
  e = .returned (.bool true) ∧ ∃ T os, ManyG W bg bk bw T os bs vp w' ∧ I T os ∧ Over os bs.length
theorem gdone_at {w : World} {bp bk : Nat} {o : OpG} {d : Bool} (h : Row w bp 115 (opG bk o)) (h2 : o.ph ≤ 2) (hd : decide (o.ph = 2) = d) :
    Calls Try.prog 15 #[.pointer (some ⟨bp, 0, none⟩)] w fun e w' => e = .returned (.bool d) ∧ w = w' := by
  subst hd
  exact gdone_op h h2
end Go.Proofs.Ytcocegneegjcpaa
