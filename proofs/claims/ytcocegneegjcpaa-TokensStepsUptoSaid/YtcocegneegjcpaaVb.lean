/- A LIST OF OPERATIONS, BEGUN AND STEPPED, IN PLAIN WORDS. -/
import Derived.Test.YtcocegneegjcpaaVa
import Derived.Test.YtcocegneegjcpaaEx
namespace Go.Proofs.Ytcocegneegjcpaa
open Go Go.RowKit

/-- a bucket of the call's own, and operations on it; the slice vp has their addresses -/
structure ManyT (W : World) (bt bk bw : Nat) (ev bu T : Int) (os : List OpT) (bs : List Nat) (vp : Value) (wr : World) : Prop where
  one : OneT W bt bk bw ev bu T wr
  ps : wr.ownsRow W.heap.size 92 1 vp bs.length (ptrs bs)
  pends : PendsT wr W.heap.size bt ev bu os bs
section
variable {W wr w1 w5 w6 : World} {bt bk bw : Nat} {ev bu T T' : Int} {os : List OpT} {bs : List Nat} {vp vp' : Value}
theorem ManyT.nil (h : OneT W bt bk bw ev bu T wr) : ManyT W bt bk bw ev bu T [] [] (.slice none 0 0) wr := ⟨h, ⟨rfl, .inl ⟨rfl, rfl⟩⟩, PendsT.nil ..⟩
theorem ManyT.on (h : ManyT W bt bk bw ev bu T os bs vp wr) (hb : Below wr.heap.size wr w1) : ManyT W bt bk bw ev bu T os bs vp w1 :=
  ⟨h.one.on hb, own_part h.ps (Part.of_below hb (Nat.le_refl _) []) (by simp), h.pends.part (Part.of_below hb (Nat.le_refl _) []) (by simp)⟩
theorem ManyT.alloc (h : ManyT W bt bk bw ev bu T os bs vp wr) (o : Obj) : ManyT W bt bk bw ev bu T os bs vp (wr.alloc o) := h.on ((Below.refl _ _).alloc (Nat.le_refl _) o)
theorem ManyT.low (h : ManyT W bt bk bw ev bu T os bs vp wr) : Below W.heap.size W wr := h.one.low
/-- behind what turns a block of another type -/
theorem ManyT.off {g : Nat} {t : TypeId} {l : List Value} (h : ManyT W bt bk bw ev bu T os bs vp wr) (hg : Row wr g t l) (hlo : W.heap.size ≤ g) (hP : Part [g] wr w1)
    (n1 : 133 ≠ t) (n2 : 145 ≠ t) (n3 : 154 ≠ t) (n4 : 92 ≠ t) (n5 : 140 ≠ t) : ManyT W bt bk bw ev bu T os bs vp w1 := by
  have b := h.one.buck
  refine ⟨⟨b.part hP (by simpa using b.head.ne hg n1) (by simpa using b.words.head.ne hg n2) (by simpa using b.words.row.ne hg n3), h.one.lo, h.low.trans (hP.below h.low.size (by simpa using hlo))⟩, own_part h.ps hP (fun q hq => by simpa using own_off h.ps hg n4 q hq), ?_⟩
  exact ⟨h.pends.len, fun q o x ho hx => (h.pends.row q o x ho hx).part hP (by simpa using (h.pends.row q o x ho hx).ne hg n5), h.pends.nodup, h.pends.lo, h.pends.ok⟩
/-- behind a growing slice of another type -/
theorem ManyT.grown {base n size : Nat} {e : TypeId} {v : Value} {xs : List Value} (h : ManyT W bt bk bw ev bu T os bs vp wr) (hv : wr.ownsRow base e size v n xs) (hbase : W.heap.size ≤ base) (hg : wr.grownBy w1 v.ownBlock)
    (n1 : e ≠ 133) (n2 : e ≠ 145) (n3 : e ≠ 154) (n4 : 92 ≠ e) (n5 : e ≠ 140) : ManyT W bt bk bw ev bu T os bs vp w1 := by
  have b := h.one.buck
  refine ⟨⟨⟨b.head.grown hg (own_not_in hv b.head n1), ⟨b.words.head.grown hg (own_not_in hv b.words.head n2), b.words.row.grown hg (own_not_in hv b.words.row n3), b.words.few, b.words.ok⟩, b.fits, b.lo, b.hi⟩, h.one.lo, h.low.grown hg h.low.size (fun q hq => Nat.le_trans hbase (own_from hv q hq))⟩, h.ps.kept hg (own_apart h.ps hv n4), ?_⟩
  exact h.pends.grown hg (fun x l hx => own_not_in hv hx n5)
/-- one operation more -/
theorem ManyT.grow {o : OpT} {bp : Nat} {ob : Obj} (h : ManyT W bt bk bw ev bu T os bs vp wr) (hb5 : Below wr.heap.size wr w5) (hr5 : Row w5 bp 140 (opTL bt o)) (hn : wr.heap.size ≤ bp) (ho : OkT ev bu o)
    (h6 : w6.ownsRow W.heap.size 92 1 vp' (bs.length + 1) (ptrs bs ++ [.pointer (some ⟨bp, 0, none⟩)])) (hg6 : (w5.alloc ob).grownBy w6 vp.ownBlock) :
    ManyT W bt bk bw ev bu T (os ++ [o]) (bs ++ [bp]) vp' w6 := by
  have h5 := (h.on hb5).alloc ob
  have hp5 := h.pends.snoc hb5 hr5 hn h.low.size ho
  have hp5' : PendsT (w5.alloc ob) W.heap.size bt ev bu (os ++ [o]) (bs ++ [bp]) := hp5.part (Part.alloc (Part.refl [] _) ob) (by simp)
  have b := h5.one.buck
  refine ⟨⟨⟨b.head.grown hg6 (own_not_in h5.ps b.head (by decide)), ⟨b.words.head.grown hg6 (own_not_in h5.ps b.words.head (by decide)), b.words.row.grown hg6 (own_not_in h5.ps b.words.row (by decide)), b.words.few, b.words.ok⟩, b.fits, b.lo, b.hi⟩, h.one.lo, h5.low.grown hg6 h5.low.size (own_from h5.ps)⟩, ?_, hp5'.grown hg6 (fun x l hx => own_not_in h5.ps hx (by decide))⟩
  rw [List.length_append, List.length_singleton, ← ptrs_snoc]
  exact h6
/-- one of them is stepped -/
theorem ManyT.step {q b : Nat} {o' : OpT} (h : ManyT W bt bk bw ev bu T os bs vp wr) (hb : bs[q]? = some b) (hB : Buck w1 bt bk bw ev bu T') (hR : Row w1 b 140 (opTL bt o')) (hP : Part [bw, b] wr w1) (ho' : OkT ev bu o') :
    ManyT W bt bk bw ev bu T' (os.set q o') bs vp w1 := by
  have hmem := List.mem_of_getElem? hb
  obtain ⟨x, hx⟩ : ∃ x, os[q]? = some x := ⟨_, List.getElem?_eq_getElem (by rw [← h.pends.len]; exact lt_of_get hb)⟩
  have hrow := h.pends.row q x b hx hb
  have hlo := h.pends.lo b hmem
  refine ⟨⟨hB, h.one.lo, h.low.trans (hP.below h.low.size (by have := h.one.lo; simp; omega))⟩, own_part h.ps hP (fun r hr => by simp; exact ⟨own_off h.ps h.one.buck.words.row (by decide) r hr, own_off h.ps hrow (by decide) r hr⟩), h.pends.step hb hR hP (fun y hy => ?_) ho'⟩
  obtain ⟨r, hr⟩ := List.getElem?_of_mem hy
  exact (h.pends.row r _ y (List.getElem?_eq_getElem (by rw [← h.pends.len]; exact lt_of_get hr)) hr).ne h.one.buck.words.row (by decide)
theorem ManyT.get {q : Nat} (h : ManyT W bt bk bw ev bu T os bs vp wr) (hq : q < bs.length) : ∃ o b g c, os[q]? = some o ∧ bs[q]? = some b ∧ vp = .slice (some ⟨g, 0, none⟩) bs.length c ∧ wr.cell? ⟨g, q, none⟩ = some (.pointer (some ⟨b, 0, none⟩)) ∧ Row wr b 140 (opTL bt o) ∧ OkT ev bu o := by
  obtain ⟨g, c, rfl, _, _⟩ := own_some h.ps (by omega)
  have h1 : os[q]? = some (os[q]'(by rw [← h.pends.len]; exact hq)) := List.getElem?_eq_getElem _
  have h2 : bs[q]? = some bs[q] := List.getElem?_eq_getElem hq
  exact ⟨_, _, g, c, h1, h2, rfl, own_cell h.ps (ptrs_get h2), h.pends.row q _ _ h1 h2, h.pends.ok _ (List.mem_of_getElem? h1)⟩
end
def ints (l : List Nat) : List Value := l.map fun (x : Nat) => .int .i64 (x : Int)
theorem ints_get {l : List Nat} {q x : Nat} (h : l[q]? = some x) : (ints l)[q]? = some (.int .i64 (x : Int)) := by simp [ints, h]
theorem ints_set (l : List Nat) (q x : Nat) : (ints l).set q (.int .i64 (x : Int)) = ints (l.set q x) := by simp [ints, List.map_set]
theorem ints_made (n : Nat) : (madeCells (Value.int .i64 0).cells (n * 1)).toList = ints (List.replicate n 0) := by
  apply List.ext_getElem?
  intro i
  simp only [madeCells, Value.cells, Nat.mul_one, ints]
  by_cases h : i < n
  · simp [h, Nat.mod_one]
  · simp [h]
end Go.Proofs.Ytcocegneegjcpaa
