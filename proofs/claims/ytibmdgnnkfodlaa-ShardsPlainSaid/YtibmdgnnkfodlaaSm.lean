/- THE WALK of the law 'ShardsPlain': an operation that is stepped through alone is the plain call. -/
import Derived.Test.YtibmdgnnkfodlaaSl
import Derived.Test.YtibmdgnnkfodlaaSd
import Derived.Test.YtibmdgnnkfodlaaEx
namespace Go.Proofs.Ytibmdgnnkfodlaa
open Go Go.RowKit

/-- the words, and what the actions have come to, behind t of them -/
def iter (ws : List Int) (k : Int) (i : Nat) (y : Int) : Nat → List Int × Int
  | 0 => (ws, 0)
  | t + 1 => ((iter ws k i y t).1.set (cellOf ws.length k i t) (putOf k y ((iter ws k i y t).1.getD (cellOf ws.length k i t) 0)), sumOf k y (iter ws k i y t).2 ((iter ws k i y t).1.getD (cellOf ws.length k i t) 0))
theorem iter_length (ws : List Int) (k : Int) (i : Nat) (y : Int) (t : Nat) : (iter ws k i y t).1.length = ws.length := by
  induction t with
  | zero => rfl
  | succ t ih => simp [iter, ih]
theorem getD_of {l : List Int} {c : Nat} {x : Int} (h : l[c]? = some x) : l.getD c 0 = x := by simp [List.getD, h]
theorem get_some {l : List Int} {c : Nat} (h : c < l.length) : l[c]? = some (l.getD c 0) := by simp [List.getD, h]
theorem iter_sum (ws : List Int) : ∀ t, t ≤ ws.length → iter ws 3 0 0 t = (ws, sumW (ws.take t)) := by
  intro t
  induction t with
  | zero => intro _; simp [iter, sumW]
  | succ t ih =>
    intro ht
    have h := ih (by omega)
    have hx := get_some (l := ws) (c := t) (by omega)
    have e : cellOf ws.length 3 0 t = t := by simp [cellOf]
    have e1 : ∀ x, putOf 3 0 x = x := fun x => by simp [putOf]
    have e2 : ∀ s x, sumOf 3 0 s x = IntKind.u64.wrap (s + x) := fun s x => by simp [sumOf]
    rw [iter, h, e, e1, e2, set_same hx, sumW_take ws hx]
theorem iter_take (ws : List Int) : ∀ t, t ≤ ws.length → iter ws 4 0 0 t = (zeroed ws t, sumW (ws.take t)) := by
  intro t
  induction t with
  | zero => intro _; simp [iter, sumW, zeroed_zero]
  | succ t ih =>
    intro ht
    have h := ih (by omega)
    have hx := get_some (l := ws) (c := t) (by omega)
    have hz : (zeroed ws t).getD t 0 = ws.getD t 0 := by simp only [List.getD]; rw [zeroed_get]
    have e : cellOf ws.length 4 0 t = t := by simp [cellOf]
    have e1 : ∀ x, putOf 4 0 x = 0 := fun x => by simp [putOf]
    have e2 : ∀ s x, sumOf 4 0 s x = IntKind.u64.wrap (s + x) := fun s x => by simp [sumOf]
    rw [iter, h]
    simp only [e, e1, e2, hz]
    rw [zeroed_set ws (by omega), sumW_take ws hx]
theorem iter_add (ws : List Int) (i : Nat) (y : Int) {x : Int} (hx : ws[i % ws.length]? = some x) : iter ws 1 i y 1 = (ws.set (i % ws.length) (IntKind.u64.wrap (x + y)), IntKind.u64.wrap (x + y)) := by
  have e : cellOf ws.length 1 i 0 = i % ws.length := by simp [cellOf]
  simp only [iter, e, getD_of hx]
  simp [putOf, sumOf]
theorem iter_read (ws : List Int) (i : Nat) {x : Int} (hx : ws[i % ws.length]? = some x) : iter ws 2 i 0 1 = (ws, x) := by
  have e : cellOf ws.length 2 i 0 = i % ws.length := by simp [cellOf]
  simp only [iter, e, getD_of hx]
  simp [putOf, sumOf, set_same hx]

/-- two counters with the same in their cells, the operation in its box -/
structure Twin (W : World) (n a1 a2 a3 b1 b2 b3 : Nat) (op : List Value) (ws : List Int) (wr : World) : Prop where
  a : Shard wr a1 a2 a3 ws
  len : ws.length = n
  b : Shard wr b1 b2 b3 ws
  ne : b3 ≠ a3
  la : W.heap.size < a3
  lb : W.heap.size < b3
  box : Row wr W.heap.size 77 op
  low : Below W.heap.size W wr
theorem Twin.both {W : World} {n a1 a2 a3 b1 b2 b3 : Nat} {op : List Value} {ws ws' : List Int} {wr w1 w2 : World} (h : Twin W n a1 a2 a3 b1 b2 b3 op ws wr) (hl : ws'.length = ws.length)
    (hS : Shard w1 a1 a2 a3 ws') (hP : Part [a3] wr w1) (hS2 : Shard w2 b1 b2 b3 ws') (hP2 : Part [b3] w1 w2) : Twin W n a1 a2 a3 b1 b2 b3 op ws' w2 := by
  have n1 : a1 ∉ [b3] := by simpa using h.a.head.ne h.b.words.row (by decide)
  have n2 : a2 ∉ [b3] := by simpa using h.a.words.head.ne h.b.words.row (by decide)
  have n3 : a3 ∉ [b3] := by simpa using fun e => h.ne e.symm
  have o1 : W.heap.size ∉ [a3] := by have := h.la; simp; omega
  have o2 : W.heap.size ∉ [b3] := by have := h.lb; simp; omega
  refine ⟨hS.part hP2 n1 n2 n3, hl.trans h.len, hS2, h.ne, h.la, h.lb, (h.box.part hP o1).part hP2 o2, h.low.trans ((hP.below h.low.size (by have := h.la; simp; omega)).trans (hP2.below (Nat.le_trans h.low.size hP.size) (by have := h.lb; simp; omega)))⟩
theorem Twin.on {W : World} {n a1 a2 a3 b1 b2 b3 : Nat} {op : List Value} {ws : List Int} {wr w1 : World} (h : Twin W n a1 a2 a3 b1 b2 b3 op ws wr) (hb : Below wr.heap.size wr w1) : Twin W n a1 a2 a3 b1 b2 b3 op ws w1 :=
  ⟨h.a.on hb, h.len, h.b.on hb, h.ne, h.la, h.lb, h.box.below hb h.box.lt, h.low.trans (hb.mono h.low.size)⟩
end Go.Proofs.Ytibmdgnnkfodlaa
