/- THE WALK of package cells: All. -/
import Derived.Test.YtamigipljgijlaaCb
namespace Go.Proofs.Ytamigipljgijlaa
open Go Go.RowKit

theorem info29 : (Try.prog.info? 29).map (fun i => (i.zero, i.size, i.bytes)) = some (some (.int .u64 0), 1, 8) := by kernel_rfl
theorem noughts29 (n : Nat) : (madeCells (Value.int .u64 0).cells (n * 1)).toList = u64s (List.replicate n 0) := by
  apply List.ext_getElem?
  intro i
  rw [u64s_get]
  simp only [madeCells, Value.cells, Nat.mul_one]
  by_cases h : i < n
  · simp [h, Nat.mod_one]
  · simp [h]

/-- what is copied into k of n words -/
def upTo (ws : List Int) (k : Nat) : List Int := ws.take k ++ List.replicate (ws.length - k) 0
theorem upTo_zero (ws : List Int) : upTo ws 0 = List.replicate ws.length 0 := by simp [upTo]
theorem upTo_all (ws : List Int) : upTo ws ws.length = ws := by simp [upTo]
theorem upTo_length (ws : List Int) {k : Nat} (h : k ≤ ws.length) : (upTo ws k).length = ws.length := by simp [upTo]; omega
theorem upTo_set (ws : List Int) {k : Nat} {x : Int} (h : ws[k]? = some x) : (upTo ws k).set k x = upTo ws (k + 1) := by
  have hk := lt_of_get h
  have hl : (ws.take k).length = k := by simp; omega
  unfold upTo
  rw [List.take_add_one, h, List.set_append_right _ _ (by omega), hl, Nat.sub_self, show ws.length - k = (ws.length - (k + 1)) + 1 by omega, List.replicate_succ]
  simp

/-- what All leaves: a new slice of the words -/
def Copied (w : World) (ws : List Int) (e : Ending) (w' : World) : Prop :=
  ∃ b, e = .returned (.slice (some ⟨b, 0, none⟩) ws.length ws.length) ∧ w.heap.size ≤ b ∧ Row w' b 29 (u64s ws) ∧ Below w.heap.size w w'

def AllAt (w : World) (b : Nat) (ws : List Int) (k : Nat) (wr : World) : Prop := Row wr b 29 (u64s (upTo ws k)) ∧ Below w.heap.size w wr

end Go.Proofs.Ytamigipljgijlaa
