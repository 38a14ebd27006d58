/- OPERATIONS THAT HAVE BEGUN, WHILE THE LISTS OF THEM GROW: the blocks that each was begun with stand as they were. -/
import Derived.Test.YtamigipljgijlaaOc
namespace Go.Proofs.Ytamigipljgijlaa
open Go Go.RowKit
set_option maxRecDepth 100000
/-- each operation was begun in a world of its own; zs: the blocks of the lists, none among those that it was begun with -/
structure NewsS (bsem : Nat) (ks : List Int) (bs zs : List Nat) (lo0 : Nat) (wr : World) : Prop where
  len : bs.length = ks.length
  at_ : ∀ (q : Nat) (k : Int) (b : Nat), ks[q]? = some k → bs[q]? = some b → ∃ w0 lo, NewS lo bsem b k w0 ∧ Part (List.range lo) w0 wr ∧ (∀ z ∈ zs, z < lo ∨ w0.heap.size ≤ z) ∧ lo0 ≤ lo ∧ lo ≤ b ∧ b < w0.heap.size
  nodup : bs.Nodup
section
variable {bsem lo0 : Nat} {ks : List Int} {bs zs : List Nat} {wr w1 : World}
theorem NewsS.nil (bsem : Nat) (zs : List Nat) (lo0 : Nat) (wr : World) : NewsS bsem [] [] zs lo0 wr := ⟨rfl, by simp, by simp⟩
theorem NewsS.on (h : NewsS bsem ks bs zs lo0 wr) (hb : Below wr.heap.size wr w1) : NewsS bsem ks bs zs lo0 w1 :=
  ⟨h.len, fun q k b hk hq => by
    obtain ⟨w0, lo, h1, h2, h3⟩ := h.at_ q k b hk hq
    exact ⟨w0, lo, h1, h2.trans (Part.of_below hb (Nat.le_refl _) []) (by simp), h3⟩, h.nodup⟩
theorem NewsS.grown {row : Option Nat} (h : NewsS bsem ks bs zs lo0 wr) (hg : wr.grownBy w1 row) (hz : ∀ z, row = some z → z ∈ zs) : NewsS bsem ks bs zs lo0 w1 :=
  ⟨h.len, fun q k b hk hq => by
    obtain ⟨w0, lo, h1, h2, h3, h4⟩ := h.at_ q k b hk hq
    refine ⟨w0, lo, h1, h2.grown hg (fun z hr hlt => ?_), h3, h4⟩
    rcases h3 z (hz z hr) with h | h
    · exact List.mem_range.2 h
    · omega, h.nodup⟩
theorem NewsS.more {z : Nat} (h : NewsS bsem ks bs zs lo0 wr) (hz : z ∈ zs ∨ wr.heap.size ≤ z) : NewsS bsem ks bs (z :: zs) lo0 wr :=
  ⟨h.len, fun q k b hk hq => by
    obtain ⟨w0, lo, h1, h2, h3, h4⟩ := h.at_ q k b hk hq
    refine ⟨w0, lo, h1, h2, fun y hy => ?_, h4⟩
    rcases List.mem_cons.1 hy with rfl | hy
    · rcases hz with hz | hz
      · exact h3 y hz
      · exact .inr (Nat.le_trans h2.size hz)
    · exact h3 y hy, h.nodup⟩
theorem NewsS.snoc {k : Int} {b : Nat} (h : NewsS bsem ks bs zs lo0 wr) (hb : Below wr.heap.size wr w1) (hn : NewS wr.heap.size bsem b k w1) (h1 : wr.heap.size ≤ b) (h2 : b < w1.heap.size) (hz : ∀ z ∈ zs, z < wr.heap.size) (hlo : lo0 ≤ wr.heap.size) :
    NewsS bsem (ks ++ [k]) (bs ++ [b]) zs lo0 w1 := by
  have h' := h.on hb
  have old : ∀ x ∈ bs, x < wr.heap.size := fun x hx => by
    obtain ⟨q, hq⟩ := List.getElem?_of_mem hx
    obtain ⟨w0, lo, _, h4, _, _, _, h5⟩ := h.at_ q _ x (List.getElem?_eq_getElem (by rw [← h.len]; exact lt_of_get hq)) hq
    exact Nat.lt_of_lt_of_le h5 h4.size
  refine ⟨by simp [h.len], fun q k' b' hk hq => ?_, ?_⟩
  · by_cases hlt : q < ks.length
    · rw [List.getElem?_append_left hlt] at hk
      rw [List.getElem?_append_left (by rw [h.len]; exact hlt)] at hq
      exact h'.at_ q k' b' hk hq
    · have e1 := lt_of_get hk
      simp only [List.length_append, List.length_singleton] at e1
      obtain rfl : q = ks.length := by omega
      rw [List.getElem?_append_right (Nat.le_refl _), Nat.sub_self] at hk
      rw [← h.len, List.getElem?_append_right (Nat.le_refl _), Nat.sub_self] at hq
      simp at hk hq
      subst hk hq
      exact ⟨w1, wr.heap.size, hn, Part.refl _ _, fun z hzz => .inl (hz z hzz), hlo, h1, h2⟩
  · rw [List.nodup_append]
    refine ⟨h.nodup, by simp, fun x hx y hy => ?_⟩
    simp at hy
    subst hy
    have := old x hx
    omega
theorem NewsS.pends (h : NewsS bsem ks bs zs lo0 wr) : PendsS wr lo0 bsem (ks.map newS) bs := by
  refine ⟨by rw [List.length_map]; exact h.len, fun q o b ho hb => ?_, h.nodup, fun b hb => ?_⟩
  · rw [List.getElem?_map] at ho
    obtain ⟨k, hk, rfl⟩ := Option.map_eq_some_iff.1 ho
    obtain ⟨w0, lo, h1, h2, _⟩ := h.at_ q k b hk hb
    obtain ⟨nx, hr, hn⟩ := h1 (List.range lo) wr (fun z hz => List.mem_range.1 hz) h2
    exact ⟨nx, 0, 0, hr, hn⟩
  · obtain ⟨q, hq⟩ := List.getElem?_of_mem hb
    obtain ⟨w0, lo, _, _, _, h4, h5, _⟩ := h.at_ q _ b (List.getElem?_eq_getElem (by rw [← h.len]; exact lt_of_get hq)) hq
    omega
end
end Go.Proofs.Ytamigipljgijlaa
