/- ROWS THAT THE CALL OWNS, IN PLAIN WORDS. -/
import Derived.Test.YtiifhkfkcljoiaaCf
namespace Go.Proofs.Ytiifhkfkcljoiaa
open Go Go.RowKit

theorem add_zero_ (g j : Nat) : (⟨g, 0, none⟩ : Addr).add j = ⟨g, j, none⟩ := by unfold Addr.add; split <;> simp_all
theorem own_from {w : World} {base n size : Nat} {e : TypeId} {v : Value} {xs : List Value} (h : w.ownsRow base e size v n xs) : ∀ q, v.ownBlock = some q → base ≤ q := by
  intro q hq
  rcases h.2 with ⟨e, _⟩ | ⟨g', _, _, e, hb', _⟩
  · rw [e] at hq; cases hq
  · rw [e] at hq; cases hq; exact hb'
theorem own_some {w : World} {base n : Nat} {e : TypeId} {v : Value} {xs : List Value} {size : Nat} (h : w.ownsRow base e size v n xs) (hn : 0 < n) : ∃ g c, v = .slice (some ⟨g, 0, none⟩) n c ∧ base ≤ g ∧ g < w.heap.size := by
  rcases h.2 with ⟨_, e⟩ | ⟨g, c, cur, hv, hb, hh, _⟩
  · omega
  · exact ⟨g, c, hv, hb, lt_of_block hh⟩
/-- a slice value that owns a row: nil, or at a block's head -/
theorem own_form {w : World} {base n : Nat} {e : TypeId} {v : Value} {xs : List Value} {size : Nat} (h : w.ownsRow base e size v n xs) : ∃ a c, v = .slice a n c := by
  rcases h.2 with ⟨hv, e⟩ | ⟨g, c, cur, hv, _⟩
  · subst e; exact ⟨none, 0, hv⟩
  · exact ⟨_, c, hv⟩
theorem own_part {w w' : World} {S : List Nat} {base : Nat} {e : TypeId} {size : Nat} {v : Value} {n : Nat} {xs : List Value} (h : w.ownsRow base e size v n xs) (hp : Part S w w') (hS : ∀ q, v.ownBlock = some q → q ∉ S) : w'.ownsRow base e size v n xs := by
  obtain ⟨h1, h2⟩ := h
  refine ⟨h1, ?_⟩
  rcases h2 with h2 | ⟨g, cap, cur, hv, hg, hh, r⟩
  · exact Or.inl h2
  · subst hv
    exact Or.inr ⟨g, cap, cur, rfl, hg, (hp.block g (lt_of_block hh) (hS g rfl)).trans hh, r⟩
/-- an owned row lies in no block of another type -/
theorem own_off {w : World} {base n size b : Nat} {e t : TypeId} {v : Value} {xs l : List Value} (h : w.ownsRow base e size v n xs) (hb : Row w b t l) (hne : e ≠ t) : ∀ q, v.ownBlock = some q → q ≠ b := by
  intro q hq he
  subst he
  rcases h.2 with ⟨rfl, _⟩ | ⟨g, _, cur, rfl, _, hh, _⟩
  · cases hq
  · cases hq
    unfold Row at hb
    rw [hh] at hb
    injection hb with hb
    injection hb with _ ht
    exact hne ht
theorem own_not_in {w : World} {base n size b : Nat} {e t : TypeId} {v : Value} {xs l : List Value} (h : w.ownsRow base e size v n xs) (hb : Row w b t l) (hne : e ≠ t) : some b ≠ v.ownBlock := fun he => own_off h hb hne b he.symm rfl
theorem own_apart {w : World} {base base' n n' size size' : Nat} {e e' : TypeId} {v v' : Value} {xs xs' : List Value} (h : w.ownsRow base e size v n xs) (h' : w.ownsRow base' e' size' v' n' xs') (hne : e ≠ e') : v.ownBlock = none ∨ v.ownBlock ≠ v'.ownBlock := by
  rcases h.2 with ⟨rfl, _⟩ | ⟨g, _, cur, rfl, _, hh, _⟩
  · exact .inl rfl
  · right
    rcases h'.2 with ⟨rfl, _⟩ | ⟨g', _, cur', rfl, _, hh', _⟩
    · simp [Value.ownBlock]
    · intro he
      simp [Value.ownBlock] at he
      subst he
      rw [hh] at hh'
      injection hh' with hh'
      injection hh' with _ ht
      exact hne ht
theorem new_cells (w : World) (l : List Value) (t : TypeId) : ∀ j u, l[j]? = some u → (w.alloc (.cells l.toArray t)).cell? ((⟨w.heap.size, 0, none⟩ : Addr).add j) = some u := by
  intro j u hj
  rw [add_zero_]
  exact ((Row.new w t l).cell j).trans hj
theorem one_ptr (a : Addr) : ∀ u ∈ [Value.pointer (some a)], u.oneCell' = true := by intro u hu; simp at hu; subst hu; rfl
theorem own_cell {w : World} {base n c g : Nat} {e : TypeId} {size : Nat} {xs : List Value} (h : w.ownsRow base e size (.slice (some ⟨g, 0, none⟩) n c) n xs) {j : Nat} {u : Value} (hj : xs[j]? = some u) : w.cell? ⟨g, j, none⟩ = some u := by
  have := h.cells (g := g) rfl j u hj
  rwa [add_zero_] at this
def ptrs (bs : List Nat) : List Value := bs.map fun b => .pointer (some ⟨b, 0, none⟩)
theorem ptrs_snoc (bs : List Nat) (b : Nat) : ptrs bs ++ [.pointer (some ⟨b, 0, none⟩)] = ptrs (bs ++ [b]) := by simp [ptrs]
theorem ptrs_get {bs : List Nat} {q b : Nat} (h : bs[q]? = some b) : (ptrs bs)[q]? = some (.pointer (some ⟨b, 0, none⟩)) := by simp [ptrs, h]
end Go.Proofs.Ytiifhkfkcljoiaa
