/- A SEMAPHORE's OPERATIONS AND THE DOCUMENT's RECORDS, WHILE THEIR LISTS GROW. -/
import Derived.Test.YtamigipljgijlaaOe
namespace Go.Proofs.Ytamigipljgijlaa
open Go Go.RowKit
set_option maxRecDepth 100000
def recS (k : Int) : DocSP := (newS k, ⟨0, 0, 0, false, 0, 0⟩)
structure GrowS (W : World) (bsem bk bw bx : Nat) (pl : Int) (ks : List Int) (bs zs : List Nat) (vp vu : Value) (w : World) : Prop where
  sem : SemM w bsem bk bw pl 0 0
  box : Row w bx 31 [.int .u64 pl, .int .u64 0, .int .u64 0]
  blo : W.heap.size ≤ bx
  lo : W.heap.size ≤ bw
  low : Below W.heap.size W w
  ps : w.ownsRow W.heap.size 35 1 vp bs.length (ptrs bs)
  un : w.ownsRow W.heap.size 40 7 vu bs.length (unCellsS (ks.map recS))
  news : NewsS bsem ks bs zs W.heap.size w
  zp : ∀ z, vp.ownBlock = some z → z ∈ zs
  zu : ∀ z, vu.ownBlock = some z → z ∈ zs
  zlt : ∀ z ∈ zs, z < w.heap.size
  kinds : ∀ k ∈ ks, k = 1 ∨ k = 2 ∨ k = 3 ∨ k = 4
section
variable {W w w1 w5 w6 w7 : World} {bsem bk bw bx bp g6 c6 g7 c7 : Nat} {pl k : Int} {ks : List Int} {bs zs : List Nat} {vp vu : Value} {ob ob' : Obj}
theorem GrowS.on (h : GrowS W bsem bk bw bx pl ks bs zs vp vu w) (hb : Below w.heap.size w w1) : GrowS W bsem bk bw bx pl ks bs zs vp vu w1 :=
  ⟨h.sem.on hb, h.box.below hb h.box.lt, h.blo, h.lo, h.low.trans (hb.mono h.low.size), own_part h.ps (Part.of_below hb (Nat.le_refl _) []) (by simp), own_part h.un (Part.of_below hb (Nat.le_refl _) []) (by simp), h.news.on hb, h.zp, h.zu, fun z hz => Nat.lt_of_lt_of_le (h.zlt z hz) hb.size, h.kinds⟩
/-- one more: the address first, then the record -/
theorem GrowS.grow (h : GrowS W bsem bk bw bx pl ks bs zs vp vu w) (hk : k = 1 ∨ k = 2 ∨ k = 3 ∨ k = 4) (hb5 : Below w.heap.size w w5) (hn : NewS w.heap.size bsem bp k w5) (h1 : w.heap.size ≤ bp) (h2 : bp < w5.heap.size)
    (h6 : w6.ownsRow W.heap.size 35 1 (.slice (some ⟨g6, 0, none⟩) (bs.length + 1) c6) (bs.length + 1) (ptrs bs ++ [.pointer (some ⟨bp, 0, none⟩)])) (hg6 : (w5.alloc ob).grownBy w6 vp.ownBlock) (hat6 : vp.ownBlock = some g6 ∨ g6 = (w5.alloc ob).heap.size)
    (h7 : w7.ownsRow W.heap.size 40 7 (.slice (some ⟨g7, 0, none⟩) (bs.length + 1) c7) (bs.length + 1) (unCellsS (ks.map recS) ++ undSP (recS k))) (hg7 : (w6.alloc ob').grownBy w7 vu.ownBlock) (hat7 : vu.ownBlock = some g7 ∨ g7 = (w6.alloc ob').heap.size) :
    GrowS W bsem bk bw bx pl (ks ++ [k]) (bs ++ [bp]) (g7 :: g6 :: zs) (.slice (some ⟨g6, 0, none⟩) (bs.length + 1) c6) (.slice (some ⟨g7, 0, none⟩) (bs.length + 1) c7) w7 := by
  have a5 := (h.on hb5).on ((Below.refl _ _).alloc (Nat.le_refl _) ob)
  have n5 := (h.news.snoc hb5 hn h1 h2 h.zlt h.low.size).on ((Below.refl _ _).alloc (Nat.le_refl _) ob)
  have n6 := (n5.more (z := g6) (by rcases hat6 with e | e; exact .inl (h.zp _ e); exact .inr (by omega))).grown hg6 (fun z hz => List.mem_cons_of_mem _ (h.zp z hz))
  have n6' := n6.on ((Below.refl _ _).alloc (Nat.le_refl _) ob')
  have n7 := (n6'.more (z := g7) (by rcases hat7 with e | e; exact .inl (List.mem_cons_of_mem _ (h.zu _ e)); exact .inr (by omega))).grown hg7 (fun z hz => List.mem_cons_of_mem _ (List.mem_cons_of_mem _ (h.zu z hz)))
  have nm6 : ∀ {b : Nat} {t : TypeId} {l : List Value}, Row (w5.alloc ob) b t l → 35 ≠ t → some b ≠ vp.ownBlock := fun hr ht => own_not_in a5.ps hr ht
  have u6 := (a5.un.kept hg6 (own_apart a5.un a5.ps (by decide))).alloc ob'
  have nm7 : ∀ {b : Nat} {t : TypeId} {l : List Value}, Row (w6.alloc ob') b t l → 40 ≠ t → some b ≠ vu.ownBlock := fun hr ht => own_not_in u6 hr ht
  have s6 : SemM (w6.alloc ob') bsem bk bw pl 0 0 := SemM.on (w := w6) ⟨a5.sem.head.grown hg6 (nm6 a5.sem.head (by decide)), ⟨a5.sem.words.head.grown hg6 (nm6 a5.sem.words.head (by decide)), a5.sem.words.row.grown hg6 (nm6 a5.sem.words.row (by decide)), a5.sem.words.few, a5.sem.words.ok⟩⟩ ((Below.refl _ _).alloc (Nat.le_refl _) ob')
  have b6 := (a5.box.grown hg6 (nm6 a5.box (by decide))).alloc ob'
  have l6 := (a5.low.grown hg6 a5.low.size (own_from a5.ps)).alloc (a5.low.grown hg6 a5.low.size (own_from a5.ps)).size ob'
  have p6 := h6.alloc ob'
  refine ⟨⟨s6.head.grown hg7 (nm7 s6.head (by decide)), ⟨s6.words.head.grown hg7 (nm7 s6.words.head (by decide)), s6.words.row.grown hg7 (nm7 s6.words.row (by decide)), s6.words.few, s6.words.ok⟩⟩, b6.grown hg7 (nm7 b6 (by decide)), h.blo, h.lo, l6.grown hg7 l6.size (own_from u6), ?_, ?_, n7, fun z hz => ?_, fun z hz => ?_, fun z hz => ?_, fun x hx => ?_⟩
  · rw [List.length_append, List.length_singleton, ← ptrs_snoc]
    exact p6.kept hg7 (own_apart p6 u6 (by decide))
  · rw [List.length_append, List.length_singleton, List.map_append, List.map_singleton, ← unCellsS_snoc]
    exact h7
  · cases hz
    simp
  · cases hz
    simp
  · rcases List.mem_cons.1 hz with rfl | hz
    · exact own_block h7 _ rfl
    · rcases List.mem_cons.1 hz with rfl | hz
      · have e1 : z < w6.heap.size := own_block h6 _ rfl
        have e2 := hg7.size
        simp only [World.size_alloc] at e2
        omega
      · have e1 := a5.zlt z hz
        have e2 := hg6.size
        have e3 := hg7.size
        simp only [World.size_alloc] at e1 e2 e3
        omega
  · rcases List.mem_append.1 hx with hx | hx
    · exact h.kinds x hx
    · simp at hx; subst hx; exact hk
/-- all of them, once no more are begun -/
theorem GrowS.all (h : GrowS W bsem bk bw bx pl ks bs zs vp vu w) : AllSm W bsem bk bw bx pl 0 0 0 0 (ks.map newS) (ks.map recS) bs vp vu w := by
  refine ⟨⟨h.sem, h.ps, h.news.pends, h.lo, h.low⟩, h.un, h.box, h.blo, by rw [List.length_map]; exact h.news.len.symm, fun x hx => ?_, fun x hx => ?_⟩
  · obtain ⟨k, hk, rfl⟩ := List.mem_map.1 hx
    exact InvS.new k
  · obtain ⟨k, hk, rfl⟩ := List.mem_map.1 hx
    exact .inr ⟨h.kinds k hk, .inl rfl⟩
end
end Go.Proofs.Ytamigipljgijlaa
