/- ONE OPERATION OF A LIST IS STEPPED: the others stand as they stood. -/
import Derived.Test.YtcocegneegjcpaaSp
namespace Go.Proofs.Ytcocegneegjcpaa
open Go Go.RowKit

theorem Pends.step {w w1 : World} {lo bk bw n q b : Nat} {os : List OpS} {bs : List Nat} {o' : OpS} (h : Pends w lo bk n os bs) (hb : bs[q]? = some b)
    (hR : Row w1 b 126 (opL bk n o'.k o'.i o'.y o'.t o'.s)) (hP : Part [bw, b] w w1) (hbw : ∀ x, x ∈ bs → x ≠ bw) (ho' : RightN o'.k o'.i o'.y) : Pends w1 lo bk n (os.set q o') bs := by
  refine ⟨by rw [List.length_set]; exact h.len, fun p x c hx hc => ?_, h.nodup, h.lo, fun x hx => ?_⟩
  · by_cases e : p = q
    · subst e
      rw [hb] at hc
      cases hc
      have hl : p < os.length := by rw [← h.len]; exact lt_of_get hb
      rw [List.getElem?_set_self hl] at hx
      cases hx
      exact hR
    · rw [List.getElem?_set_ne (fun e' => e e'.symm)] at hx
      have hne : c ≠ b := fun e' => by
        subst e'
        exact e ((List.getElem?_inj (lt_of_get hc) h.nodup).1 (hc.trans hb.symm))
      exact (h.row p x c hx hc).part hP (by simp; exact ⟨hbw c (List.mem_of_getElem? hc), hne⟩)
  · rcases List.mem_or_eq_of_mem_set hx with hx | rfl
    · exact h.right x hx
    · exact ho'
/-- what all cells have goes with what the operations have added -/
theorem cong_start (n : Nat) (ops : List (Int × Int × Int)) : Cong (sumI (List.replicate n 0)) (totalOf (pick ops)) := by
  have h1 : ∀ n, sumI (List.replicate n 0) = 0 := fun n => by
    induction n with
    | zero => rfl
    | succ n ih => rw [List.replicate_succ, sumI_cons, ih]; rfl
  have h2 : ∀ l : List OpS, (∀ o, o ∈ l → o.t = 0 ∧ o.s = 0) → totalOf l = 0 := fun l => by
    induction l with
    | nil => intro _; rfl
    | cons o l ih =>
      intro ho
      have h := ho o (by simp)
      have e : totalOf (o :: l) = contrib o + totalOf l := rfl
      rw [e, ih (fun x hx => ho x (by simp [hx]))]
      unfold contrib
      simp [h.1, h.2]
  rw [h1, h2]
  · exact Cong.refl 0
  · intro o ho
    unfold pick at ho
    rw [List.mem_filterMap] at ho
    obtain ⟨op, _, h⟩ := ho
    split at h
    · cases h
      exact ⟨rfl, rfl⟩
    · cases h
end Go.Proofs.Ytcocegneegjcpaa
