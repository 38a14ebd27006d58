/- OPERATIONS OF quota AND THE DOCUMENT's OWN, SIDE BY SIDE. -/
import Derived.Test.YtddlalljdecdoaaDd
namespace Go.Proofs.Ytddlalljdecdoaa
open Go Go.RowKit
set_option maxRecDepth 100000
/-- operations under way, and the document's records of them -/
structure AllB (W : World) (bq bk bw : Nat) (ba : Int) (n : Nat) (ws : List Int) (xs : List DocP) (bs : List Nat) (vp vu : Value) (wr : World) : Prop where
  many : ManyB W bq bk bw ba n ws (xs.map Prod.fst) bs vp wr
  un : wr.ownsRow W.heap.size 41 8 vu bs.length (unCells xs)
  inv : ∀ x, x ∈ xs → InvB x.1 x.2
  still : ∀ x, x ∈ xs → StillB x.1
section
variable {W wr w1 w5 w6 w7 : World} {bq bk bw n : Nat} {ba : Int} {ws ws' : List Int} {xs : List DocP} {bs : List Nat} {vp vu vp' vu' : Value}
theorem AllB.on (h : AllB W bq bk bw ba n ws xs bs vp vu wr) (hb : Below wr.heap.size wr w1) : AllB W bq bk bw ba n ws xs bs vp vu w1 := ⟨h.many.on hb, own_part h.un (Part.of_below hb (Nat.le_refl _) []) (by simp), h.inv, h.still⟩
theorem AllB.nil (h : OneB W bq bk bw ba n ws wr) : AllB W bq bk bw ba n ws [] [] (.slice none 0 0) (.slice none 0 0) wr := ⟨ManyB.nil h, ⟨rfl, .inl ⟨rfl, rfl⟩⟩, by simp, by simp⟩
/-- one more: the record first, then the address -/
theorem AllB.grow {k : Int} {wk bp : Nat} {ob ob' : Obj} (h : AllB W bq bk bw ba n ws xs bs vp vu wr) (hb5 : Below wr.heap.size wr w5) (hr5 : Row w5 bp 75 (rowB bq (newB k wk))) (hn : wr.heap.size ≤ bp) (ho : FineB n k wk)
    (h6 : w6.ownsRow W.heap.size 41 8 vu' (bs.length + 1) (unCells xs ++ undP (newB k wk, ⟨0, 0, 0, 0, false, 0⟩))) (hg6 : (w5.alloc ob).grownBy w6 vu.ownBlock)
    (h7 : w7.ownsRow W.heap.size 32 1 vp' (bs.length + 1) (ptrs bs ++ [.pointer (some ⟨bp, 0, none⟩)])) (hg7 : (w6.alloc ob').grownBy w7 vp.ownBlock) :
    AllB W bq bk bw ba n ws (xs ++ [(newB k wk, ⟨0, 0, 0, 0, false, 0⟩)]) (bs ++ [bp]) vp' vu' w7 := by
  have u5 : (w5.alloc ob).ownsRow W.heap.size 41 8 vu bs.length (unCells xs) := (h.on hb5).un.alloc ob
  have m5 := (h.many.on hb5).alloc ob
  have m6 : ManyB W bq bk bw ba n ws (xs.map Prod.fst) bs vp w6 := m5.grown u5 (Nat.le_refl _) hg6 (by decide) (by decide) (by decide) (by decide) (by decide)
  have m6' := m6.alloc ob'
  have hp5 := h.many.pends.snoc hb5 hr5 hn h.many.low.size (OkB.new ho)
  have hp5' := hp5.part (Part.alloc (Part.refl [] _) ob) (by simp)
  have hp6 := hp5'.grown hg6 (fun x l hx => own_not_in u5 hx (by decide))
  have hp6' := hp6.part (Part.alloc (Part.refl [] _) ob') (by simp)
  have b := m6'.one.quo
  have hm : ManyB W bq bk bw ba n ws (xs.map Prod.fst ++ [newB k wk]) (bs ++ [bp]) vp' w7 := by
    refine ⟨⟨⟨b.head.grown hg7 (own_not_in m6'.ps b.head (by decide)), ⟨b.words.head.grown hg7 (own_not_in m6'.ps b.words.head (by decide)), b.words.row.grown hg7 (own_not_in m6'.ps b.words.row (by decide)), b.words.few, b.words.ok⟩, b.least, b.top, b.lowb, b.topb⟩, m6'.one.len, m6'.one.lo, m6'.low.grown hg7 m6'.low.size (own_from m6'.ps)⟩, ?_, hp6'.grown hg7 (fun x l hx => own_not_in m6'.ps hx (by decide))⟩
    rw [List.length_append, List.length_singleton, ← ptrs_snoc]
    exact h7
  refine ⟨by simpa using hm, ?_, fun x hx => ?_, fun x hx => ?_⟩
  · rw [List.length_append, List.length_singleton, ← unCells_snoc]
    exact (h6.alloc ob').kept hg7 (own_apart (h6.alloc ob') m6'.ps (by decide))
  · rcases List.mem_append.1 hx with hx | hx
    · exact h.inv x hx
    · simp at hx; subst hx; exact InvB.new ho
  · rcases List.mem_append.1 hx with hx | hx
    · exact h.still x hx
    · simp at hx; subst hx; exact StillB.new _ _
/-- one of them is stepped -/
theorem AllB.step {q b : Nat} {x : DocP} {e : Ending} (h : AllB W bq bk bw ba n ws xs bs vp vu wr) (hx : xs[q]? = some x) (hb : bs[q]? = some b) (hs : SteppedO wr bq bk bw b ba ws x.1 e w1) :
    ManyB W bq bk bw ba n (stepBW ba ws x.1) ((xs.map Prod.fst).set q (stepB ba ws x.1)) bs vp w1 ∧ w1.ownsRow W.heap.size 41 8 vu bs.length (unCells xs) := by
  obtain ⟨_, hB, hR, hP⟩ := hs
  have ho : (xs.map Prod.fst)[q]? = some x.1 := by simp [hx]
  have hrow := h.many.pends.row q x.1 b ho hb
  have hok := h.many.pends.ok x.1 (List.mem_of_getElem? ho)
  have hok' : OkB (n + 1) (stepB ba ws x.1) := by
    rw [← h.many.one.len] at hok ⊢
    exact hok.step h.many.one.quo.words.ok h.many.one.quo.least
  exact ⟨h.many.step hb hB (stepBW_length _ _ _) hR hP hok', own_part h.un hP (fun r hr => by simp; exact ⟨own_off h.un h.many.one.quo.words.row (by decide) r hr, own_off h.un hrow (by decide) r hr⟩)⟩
end
end Go.Proofs.Ytddlalljdecdoaa
