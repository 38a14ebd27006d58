/- FOR ROWS WITH A BOUND: what the bound gives; a list of numbers opened, nil told apart. -/
import Derived.Test.YtcocegneegjcpaaRg
namespace Go.Proofs.Ytcocegneegjcpaa
open Go.ChangeShapes Go.WideShapes Go.ChangeAt Go.RowKit Go.Deep Go.Joins

set_option maxRecDepth 100000
theorem bulk_pos {H : Type} (d : DataW H) : 1 ≤ Rows.uptoBulk d := by
  rcases d with l | _ | p | ⟨el, sp⟩ | ps | ⟨t, d⟩ | es | h
  · cases l <;> simp [Rows.uptoBulk]
  all_goals simp [Rows.uptoBulk]
theorem bulk_len {H : Type} : ∀ l : List (DataW H), l.length ≤ Rows.uptoBulkAll l
  | [] => Nat.zero_le _
  | d :: l => by
    have h1 := bulk_pos d
    have h2 := bulk_len l
    simp only [Rows.uptoBulkAll, List.length_cons]
    omega
theorem bulk_slice {H : Type} (el sp : List (DataW H)) : el.length ≤ Rows.uptoBulk (.slice el sp) := by
  have h := bulk_len el
  simp only [Rows.uptoBulk]
  omega
/-- a slice of numbers that came in -/
theorem open_nums0 {H : Type} {enc : TypeId × Value → H} {w : World} {t e : TypeId} {k : IntKind} {b0 : Nat} {v : Value} {d : DataW H} {ps : List MemPlace} (ht : Try.prog.underlying t = some (.slice e)) (he : Try.prog.underlying e = some (.int k)) (hc : Try.prog.cellsOf e = 1)
    (hv : Value.okWide Try.prog w .any b0 t v) (h : DataW.Trod enc Try.prog w 0 (fun _ => true) true t v d ps) :
    ∃ (A : Option Addr) (xs : List Int) (cap : Nat), v = .slice A xs.length cap ∧ Ext k w A xs ∧ (A = none → xs.length = 0 ∧ cap = 0) ∧ (xs = [] ∨ ∃ el sp, d = .slice el sp ∧ el.length = xs.length) := by
  obtain ⟨A, len, cap, rfl⟩ := okWide_slice ht hv
  obtain ⟨fuel, hf⟩ := h
  rcases open_ints ht he hc hf with ⟨hcs, hx⟩ | ⟨a, len', cap', zs, hcs, _, hl, hm, hz, hx, hcell, hwz⟩
  · simp [Value.cells] at hcs
    obtain ⟨rfl, rfl, rfl⟩ := hcs
    exact ⟨none, [], 0, rfl, fun j x hx => by simp at hx, fun _ => ⟨rfl, rfl⟩, .inl rfl⟩
  · simp [Value.cells] at hcs
    obtain ⟨rfl, rfl, rfl⟩ := hcs
    simp only [if_true] at hz
    simp only [Prod.mk.injEq] at hx
    have hlen : (zs.take len).length = len := by rw [List.length_take]; omega
    refine ⟨some a, zs.take len, cap, by rw [hlen], fun j x hx' => ?_, (fun h => by cases h), .inr ⟨_, _, hx.1, by simp [lits]⟩⟩
    have hj : j < len := by have := (List.getElem?_eq_some_iff.1 hx').1; omega
    have h0 := hcell 0 (by omega)
    have hb := World.block_lt_of_cell? _ _ h0
    have hjc := hcell j (by omega)
    rw [List.getElem?_take_of_lt hj] at hx'
    have hv' : zs.getD j 0 = x := by simp [List.getD, hx']
    rw [hv'] at hjc
    obtain ⟨b, o, s⟩ := a
    cases s with
    | none => exact ⟨b, o, rfl, by simpa [Addr.add] using hb, by rw [Addr.add_lit] at hjc; exact hjc⟩
    | some s => simp [Addr.add, World.cell?] at h0; split at h0 <;> simp at h0
end Go.Proofs.Ytcocegneegjcpaa
