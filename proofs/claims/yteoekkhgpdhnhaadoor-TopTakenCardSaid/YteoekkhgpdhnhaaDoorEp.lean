/- A SLICE OF STRUCTS OF TWO NUMBERS, AND ONE OF BOOLS, THAT CAME IN, IN PLAIN WORDS. -/
import Derived.Test.YteoekkhgpdhnhaaDoorHp
namespace Go.Proofs.YteoekkhgpdhnhaaDoor
open Go Go.RowKit

/-- a slice that came in reads as these pairs of numbers -/
def Ext2 (q0 q1 : IntKind) (w : World) (A : Option Addr) (ops : List (Int × Int)) : Prop := ∀ j op, ops[j]? = some op → ∃ b o, A = some ⟨b, o, none⟩ ∧ b < w.heap.size ∧
  w.cell? ⟨b, o + j * 2, none⟩ = some (.int q0 op.1) ∧ w.cell? ⟨b, o + j * 2 + 1, none⟩ = some (.int q1 op.2)
theorem Ext2.on {q0 q1 : IntKind} {w w' : World} {A : Option Addr} {ops : List (Int × Int)} (h : Ext2 q0 q1 w A ops) (hb : Below w.heap.size w w') : Ext2 q0 q1 w' A ops := fun j op hj => by
  obtain ⟨b, o, e, hlt, h0, h1⟩ := h j op hj
  exact ⟨b, o, e, Nat.lt_of_lt_of_le hlt hb.size, (hb.cell (p := ⟨b, o + j * 2, none⟩) hlt).trans h0, (hb.cell (p := ⟨b, o + j * 2 + 1, none⟩) hlt).trans h1⟩
/-- a slice that came in reads as these bools -/
def ExtB (w : World) (A : Option Addr) (xs : List Bool) : Prop := ∀ j x, xs[j]? = some x → ∃ b o, A = some ⟨b, o, none⟩ ∧ b < w.heap.size ∧ w.cell? ⟨b, o + j, none⟩ = some (.bool x)
theorem ExtB.on {w w' : World} {A : Option Addr} {xs : List Bool} (h : ExtB w A xs) (hb : Below w.heap.size w w') : ExtB w' A xs := fun j x hj => by
  obtain ⟨b, o, e, hlt, h0⟩ := h j x hj
  exact ⟨b, o, e, Nat.lt_of_lt_of_le hlt hb.size, (hb.cell (p := ⟨b, o + j, none⟩) hlt).trans h0⟩
end Go.Proofs.YteoekkhgpdhnhaaDoor
