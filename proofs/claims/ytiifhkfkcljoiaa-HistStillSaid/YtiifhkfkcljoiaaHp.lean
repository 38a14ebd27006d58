/- MEMORY IN PLAIN WORDS: a block that is known whole ('Row'); two worlds that part in few blocks ('Part'). -/
import Derived.WalkKit
import Derived.Below
import Derived.OneCell
import Derived.Laws.OwnMore
import Derived.Laws.Rows
import Derived.Laws.NewBlocks
import Derived.Deep.Draws
import Derived.Lib.Hide
import Derived.Laws.Bits64
namespace Go.Proofs.Ytiifhkfkcljoiaa
open Go Go.RowKit

/-- a uint64 -/
def U64 (x : Int) : Prop := 0 ≤ x ∧ x < 18446744073709551616
theorem u64_wrap (n : Int) : U64 (IntKind.u64.wrap n) := by unfold U64; rw [IntKind.wrap_u64]; omega
theorem U64.wrap {x : Int} (h : U64 x) : IntKind.u64.wrap x = x := by unfold U64 at h; rw [IntKind.wrap_u64]; omega
theorem U64.back {x : Int} (h : U64 x) (y : Int) : IntKind.u64.wrap (IntKind.u64.wrap (x + y) - y) = x := by unfold U64 at h; rw [IntKind.wrap_u64, IntKind.wrap_u64]; omega
theorem U64.zero : U64 0 := by unfold U64; omega

/-- block b has the cells l, of element type t; none is frozen -/
def Row (w : World) (b : Nat) (t : TypeId) (l : List Value) : Prop := w.heap[b]? = some (.cells l.toArray t (0, 0))

section
variable {w w' : World} {b b' : Nat} {t t' : TypeId} {l l' : List Value}
theorem Row.lt (h : Row w b t l) : b < w.heap.size := lt_of_block h
theorem Row.cell (h : Row w b t l) (i : Nat) : w.cell? ⟨b, i, none⟩ = l[i]? := by
  have := cell_of_row w b i l.toArray t (0, 0) h
  simpa using this
theorem Row.free (h : Row w b t l) (i : Nat) : w.frozen? ⟨b, i, none⟩ = false := by
  unfold Row at h
  simp [World.frozen?, h]
theorem Row.new (w : World) (t : TypeId) (l : List Value) : Row (w.alloc (.cells l.toArray t)) w.heap.size t l := heap_alloc_new w _
theorem Row.drew (h : Row w b t l) : Row w.drew b t l := h
theorem Row.alloc (h : Row w b t l) (o : Obj) : Row (w.alloc o) b t l := (Below.heap_alloc w o b h.lt).trans h
theorem Row.set (h : Row w b t l) (i : Nat) (u : Value) : Row (w.setCell ⟨b, i, none⟩ u) b t (l.set i u) := by
  unfold Row at h ⊢
  simp [World.setCell, Array.getElem?_modify, h]
theorem Row.far (h : Row w b t l) {p : Addr} (hp : p.block ≠ b) (u : Value) : Row (w.setCell p u) b t l := (Below.heap_setCell w p u b (fun e => hp e.symm)).trans h
theorem Row.ne (h : Row w b t l) (h' : Row w b' t' l') (hne : t ≠ t') : b ≠ b' := by
  rintro rfl
  unfold Row at h h'
  rw [h] at h'
  injection h' with h'
  injection h' with _ ht
  exact hne ht
theorem Row.inj (h : Row w b t l) (h' : Row w b t' l') : l = l' := by
  unfold Row at h h'
  rw [h] at h'
  injection h' with h'
  injection h' with hl _
  simpa using hl
theorem Row.below {B : Nat} (h : Row w b t l) (hb : Below B w w') (hg : b < B) : Row w' b t l := (hb.block b hg).trans h
theorem Row.grown {row : Option Nat} (h : Row w b t l) (hb : w.grownBy w' row) (hg : some b ≠ row) : Row w' b t l := (hb.block b h.lt hg).trans h
end

/-- behind a step w' is as w was, but for the blocks in S and new ones -/
structure Part (S : List Nat) (w w' : World) : Prop where
  os : w'.os = w.os
  tape : w'.tape = w.tape
  output : w'.output = w.output
  size : w.heap.size ≤ w'.heap.size
  block : ∀ k, k < w.heap.size → k ∉ S → w'.heap[k]? = w.heap[k]?

section
variable {w w1 w2 : World} {S S' : List Nat}
theorem Part.refl (S : List Nat) (w : World) : Part S w w := ⟨rfl, rfl, rfl, Nat.le_refl _, fun _ _ _ => rfl⟩
theorem Part.mono (h : Part S w w1) (hS : ∀ k, k < w.heap.size → k ∈ S → k ∈ S') : Part S' w w1 := ⟨h.os, h.tape, h.output, h.size, fun k hk hn => h.block k hk fun hm => hn (hS k hk hm)⟩
theorem Part.trans (h : Part S w w1) (k : Part S' w1 w2) (hS : ∀ k, k < w.heap.size → k ∈ S' → k ∈ S) : Part S w w2 :=
  ⟨k.os.trans h.os, k.tape.trans h.tape, k.output.trans h.output, Nat.le_trans h.size k.size, fun i hi hn => (k.block i (Nat.lt_of_lt_of_le hi h.size) fun hm => hn (hS i hi hm)).trans (h.block i hi hn)⟩
theorem Part.then_ (h : Part S w w1) (k : Part S w1 w2) : Part S w w2 := h.trans k fun _ _ hm => hm
theorem Part.of_below {B : Nat} (h : Below B w w1) (hB : w.heap.size ≤ B) (S : List Nat) : Part S w w1 := ⟨h.os, h.tape, h.output, h.size, fun k hk _ => h.block k (Nat.lt_of_lt_of_le hk hB)⟩
theorem Part.below {B : Nat} (h : Part S w w1) (hB : B ≤ w.heap.size) (hS : ∀ k, k ∈ S → B ≤ k) : Below B w w1 :=
  ⟨h.os, h.tape, h.output, h.size, fun k hk => h.block k (Nat.lt_of_lt_of_le hk hB) fun hm => by have := hS k hm; omega⟩
theorem Part.drew (h : Part S w w1) : Part S w w1.drew := ⟨h.os, h.tape, h.output, h.size, h.block⟩
theorem Part.alloc (h : Part S w w1) (o : Obj) : Part S w (w1.alloc o) := h.then_ ⟨rfl, rfl, rfl, by simp, fun k hk _ => Below.heap_alloc _ _ _ hk⟩
theorem Part.set (h : Part S w w1) {p : Addr} (hp : p.block < w.heap.size → p.block ∈ S) (u : Value) : Part S w (w1.setCell p u) :=
  h.trans (S' := [p.block]) ⟨rfl, rfl, rfl, by simp, fun k _ hn => Below.heap_setCell _ _ _ _ (by simpa using hn)⟩ (fun k hk hm => by
    obtain rfl : k = p.block := by simpa using hm
    exact hp hk)
theorem Part.grown {row : Option Nat} (h : Part S w w1) (hg : w1.grownBy w2 row) (hr : ∀ k, row = some k → k < w.heap.size → k ∈ S) : Part S w w2 :=
  h.trans (S' := row.toList) ⟨hg.os, hg.tape, hg.output, hg.size, fun k hk hn => hg.block k hk (fun e => hn (by rw [← e]; simp))⟩ (fun k hk hm => by
    have e : row = some k := by simpa using hm
    exact hr k e hk)
theorem Row.part {b : Nat} {t : TypeId} {l : List Value} (h : Row w b t l) (hp : Part S w w1) (hb : b ∉ S) : Row w1 b t l := (hp.block b h.lt hb).trans h
end
end Go.Proofs.Ytiifhkfkcljoiaa
