/- A SLICE OF STRUCTS OF THREE NUMBERS THAT CAME IN, IN PLAIN WORDS. -/
import Derived.Test.YtiifhkfkcljoiaaHp
namespace Go.Proofs.Ytiifhkfkcljoiaa
open Go Go.RowKit

/-- a slice that came in reads as these triples of numbers -/
def Ext3 (q0 q1 q2 : IntKind) (w : World) (A : Option Addr) (ops : List (Int × Int × Int)) : Prop := ∀ j op, ops[j]? = some op → ∃ b o, A = some ⟨b, o, none⟩ ∧ b < w.heap.size ∧
  w.cell? ⟨b, o + j * 3, none⟩ = some (.int q0 op.1) ∧ w.cell? ⟨b, o + j * 3 + 1, none⟩ = some (.int q1 op.2.1) ∧ w.cell? ⟨b, o + j * 3 + 2, none⟩ = some (.int q2 op.2.2)
theorem Ext3.on {q0 q1 q2 : IntKind} {w w' : World} {A : Option Addr} {ops : List (Int × Int × Int)} (h : Ext3 q0 q1 q2 w A ops) (hb : Below w.heap.size w w') : Ext3 q0 q1 q2 w' A ops := fun j op hj => by
  obtain ⟨b, o, e, hlt, h0, h1, h2⟩ := h j op hj
  exact ⟨b, o, e, Nat.lt_of_lt_of_le hlt hb.size, (hb.cell (p := ⟨b, o + j * 3, none⟩) hlt).trans h0, (hb.cell (p := ⟨b, o + j * 3 + 1, none⟩) hlt).trans h1, (hb.cell (p := ⟨b, o + j * 3 + 2, none⟩) hlt).trans h2⟩
end Go.Proofs.Ytiifhkfkcljoiaa
