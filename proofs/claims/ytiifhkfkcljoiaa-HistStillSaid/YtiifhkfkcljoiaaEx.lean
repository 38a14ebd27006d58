/- A SLICE OF NUMBERS THAT CAME IN, IN PLAIN WORDS. -/
import Derived.Test.YtiifhkfkcljoiaaHp
namespace Go.Proofs.Ytiifhkfkcljoiaa
open Go Go.RowKit

/-- a slice that came in reads as these numbers -/
def Ext (q : IntKind) (w : World) (A : Option Addr) (xs : List Int) : Prop := ∀ j x, xs[j]? = some x → ∃ b o, A = some ⟨b, o, none⟩ ∧ b < w.heap.size ∧ w.cell? ⟨b, o + j, none⟩ = some (.int q x)
theorem Ext.on {q : IntKind} {w w' : World} {A : Option Addr} {xs : List Int} (h : Ext q w A xs) (hb : Below w.heap.size w w') : Ext q w' A xs := fun j x hx => by
  obtain ⟨b, o, e, hlt, hc⟩ := h j x hx
  exact ⟨b, o, e, Nat.lt_of_lt_of_le hlt hb.size, (hb.cell (p := ⟨b, o + j, none⟩) hlt).trans hc⟩

end Go.Proofs.Ytiifhkfkcljoiaa
