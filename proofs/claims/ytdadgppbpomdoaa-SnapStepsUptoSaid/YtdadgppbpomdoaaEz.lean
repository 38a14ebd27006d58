/- A SLICE OF STRUCTS OF FOUR NUMBERS THAT CAME IN, IN PLAIN WORDS. -/
import Derived.Test.YtdadgppbpomdoaaHp
namespace Go.Proofs.Ytdadgppbpomdoaa
open Go Go.RowKit

/-- a slice that came in reads as these quadruples of numbers -/
def Ext4 (q0 q1 q2 q3 : IntKind) (w : World) (A : Option Addr) (ops : List (Int × Int × Int × Int)) : Prop := ∀ j op, ops[j]? = some op → ∃ b o, A = some ⟨b, o, none⟩ ∧ b < w.heap.size ∧
  w.cell? ⟨b, o + j * 4, none⟩ = some (.int q0 op.1) ∧ w.cell? ⟨b, o + j * 4 + 1, none⟩ = some (.int q1 op.2.1) ∧ w.cell? ⟨b, o + j * 4 + 2, none⟩ = some (.int q2 op.2.2.1) ∧ w.cell? ⟨b, o + j * 4 + 3, none⟩ = some (.int q3 op.2.2.2)
theorem Ext4.on {q0 q1 q2 q3 : IntKind} {w w' : World} {A : Option Addr} {ops : List (Int × Int × Int × Int)} (h : Ext4 q0 q1 q2 q3 w A ops) (hb : Below w.heap.size w w') : Ext4 q0 q1 q2 q3 w' A ops := fun j op hj => by
  obtain ⟨b, o, e, hlt, h0, h1, h2, h3⟩ := h j op hj
  exact ⟨b, o, e, Nat.lt_of_lt_of_le hlt hb.size, (hb.cell (p := ⟨b, o + j * 4, none⟩) hlt).trans h0, (hb.cell (p := ⟨b, o + j * 4 + 1, none⟩) hlt).trans h1, (hb.cell (p := ⟨b, o + j * 4 + 2, none⟩) hlt).trans h2, (hb.cell (p := ⟨b, o + j * 4 + 3, none⟩) hlt).trans h3⟩
end Go.Proofs.Ytdadgppbpomdoaa
