/- OPERATIONS OF A BUCKET THAT ARE ALL UNDER WAY. -/
import Derived.Test.YtcocegneegjcpaaOw
import Derived.Test.YtcocegneegjcpaaTo
namespace Go.Proofs.Ytcocegneegjcpaa
open Go Go.RowKit

/-- all operations of a list are under way, each in a block of its own -/
structure PendsT (w : World) (lo bt : Nat) (ev bu : Int) (os : List OpT) (bs : List Nat) : Prop where
  len : bs.length = os.length
  row : ∀ (q : Nat) (o : OpT) (b : Nat), os[q]? = some o → bs[q]? = some b → Row w b 140 (opTL bt o)
  nodup : bs.Nodup
  lo : ∀ b, b ∈ bs → lo ≤ b
  ok : ∀ o, o ∈ os → OkT ev bu o
section
variable {w w' : World} {lo bt : Nat} {ev bu : Int} {os : List OpT} {bs : List Nat}
theorem PendsT.nil (w : World) (lo bt : Nat) (ev bu : Int) : PendsT w lo bt ev bu [] [] := ⟨rfl, by simp, by simp, by simp, by simp⟩
theorem PendsT.lt (h : PendsT w lo bt ev bu os bs) : ∀ b, b ∈ bs → b < w.heap.size := fun b hb => by
  obtain ⟨q, hq⟩ := List.getElem?_of_mem hb
  have hl := lt_of_get hq
  exact (h.row q _ b (List.getElem?_eq_getElem (by rw [← h.len]; exact hl)) hq).lt
theorem PendsT.part {S : List Nat} (h : PendsT w lo bt ev bu os bs) (hp : Part S w w') (hS : ∀ b, b ∈ bs → b ∉ S) : PendsT w' lo bt ev bu os bs :=
  ⟨h.len, fun q o b ho hb => (h.row q o b ho hb).part hp (hS b (List.mem_of_getElem? hb)), h.nodup, h.lo, h.ok⟩
theorem PendsT.grown {row : Option Nat} (h : PendsT w lo bt ev bu os bs) (hg : w.grownBy w' row) (hr : ∀ (b : Nat) (l : List Value), Row w b 140 l → some b ≠ row) : PendsT w' lo bt ev bu os bs :=
  ⟨h.len, fun q o b ho hb => (h.row q o b ho hb).grown hg (hr b _ (h.row q o b ho hb)), h.nodup, h.lo, h.ok⟩
theorem PendsT.snoc {o : OpT} {b : Nat} (h : PendsT w lo bt ev bu os bs) (hb : Below w.heap.size w w') (hr : Row w' b 140 (opTL bt o)) (hn : w.heap.size ≤ b) (hlo : lo ≤ w.heap.size) (ho : OkT ev bu o) :
    PendsT w' lo bt ev bu (os ++ [o]) (bs ++ [b]) := by
  have hlt := h.lt
  have h' := h.part (Part.of_below hb (Nat.le_refl _) []) (by simp)
  refine ⟨by simp [h.len], fun q o' b' ho' hb' => ?_, ?_, fun x hx => ?_, fun x hx => ?_⟩
  · by_cases hq : q < os.length
    · rw [List.getElem?_append_left hq] at ho'
      rw [List.getElem?_append_left (by rw [h.len]; exact hq)] at hb'
      exact h'.row q o' b' ho' hb'
    · rw [List.getElem?_append_right (by omega)] at ho'
      rw [List.getElem?_append_right (by rw [h.len]; omega)] at hb'
      have hq0 : q - os.length = 0 := by have := lt_of_get ho'; simp at this; omega
      have hq1 : q - bs.length = 0 := by rw [h.len]; exact hq0
      rw [hq0] at ho'
      rw [hq1] at hb'
      simp at ho' hb'
      subst ho'
      subst hb'
      exact hr
  · rw [List.nodup_append]
    refine ⟨h.nodup, by simp, fun x hx y hy => ?_⟩
    simp at hy
    subst hy
    have := hlt x hx
    omega
  · rw [List.mem_append] at hx
    rcases hx with hx | hx
    · exact h.lo x hx
    · simp at hx; subst hx; omega
  · rw [List.mem_append] at hx
    rcases hx with hx | hx
    · exact h.ok x hx
    · simp at hx; subst hx; exact ho
theorem PendsT.step {q b bw : Nat} {o' : OpT} (h : PendsT w lo bt ev bu os bs) (hb : bs[q]? = some b) (hR : Row w' b 140 (opTL bt o')) (hP : Part [bw, b] w w') (hbw : ∀ x, x ∈ bs → x ≠ bw) (ho' : OkT ev bu o') : PendsT w' lo bt ev bu (os.set q o') bs := by
  refine ⟨by rw [List.length_set]; exact h.len, fun p x c hx hc => ?_, h.nodup, h.lo, fun x hx => ?_⟩
  · by_cases e : p = q
    · subst e
      rw [hb] at hc
      cases hc
      have hl : p < os.length := by rw [← h.len]; exact lt_of_get hb
      rw [List.getElem?_set_self hl] at hx
      cases hx
      exact hR
    · rw [List.getElem?_set_ne (fun e' => e e'.symm)] at hx
      have hne : c ≠ b := fun e' => by
        subst e'
        exact e ((List.getElem?_inj (lt_of_get hc) h.nodup).1 (hc.trans hb.symm))
      exact (h.row p x c hx hc).part hP (by simp; exact ⟨hbw c (List.mem_of_getElem? hc), hne⟩)
  · rcases List.mem_or_eq_of_mem_set hx with hx | rfl
    · exact h.ok x hx
    · exact ho'
end
/-- the operations of a list that are right, ahead of their first action -/
def pickT (ops : List (Int × Int × Int)) : List OpT := ops.filterMap fun op => if trightB op.1 op.2.1 op.2.2 then some (newO op.1 op.2.1 op.2.2) else none
theorem pickT_take (ops : List (Int × Int × Int)) {j : Nat} {op : Int × Int × Int} (h : ops[j]? = some op) :
    pickT (ops.take (j + 1)) = pickT (ops.take j) ++ (if trightB op.1 op.2.1 op.2.2 then [newO op.1 op.2.1 op.2.2] else []) := by
  rw [List.take_add_one, h]
  unfold pickT
  rw [List.filterMap_append]
  congr 1
  cases hb : trightB op.1 op.2.1 op.2.2 <;> simp [hb]
theorem pickT_length (ops : List (Int × Int × Int)) : (pickT ops).length ≤ ops.length := List.length_filterMap_le _ _
theorem infoP : (Try.prog.info? 92).map (fun i => (i.zero, i.size, i.bytes)) = some (some (.pointer none), 1, 8) := by kernel_rfl
theorem infoI : (Try.prog.info? 3).map (fun i => (i.zero, i.size, i.bytes)) = some (some (.int .i64 0), 1, 8) := by kernel_rfl
theorem infoTO : (Try.prog.info? 97).map (fun i => (i.zero, i.size, i.bytes)) = some (some (.agg #[.int .u8 0, .int .i64 0, .int .i64 0]), 3, 24) := by kernel_rfl
end Go.Proofs.Ytcocegneegjcpaa
