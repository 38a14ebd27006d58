/- A LIST OF OPERATIONS OF A HISTOGRAM, OPENED; A SCALE, OPENED AND SHUT. -/
import Derived.Test.YtiifhkfkcljoiaaRh
import Derived.Test.YtiifhkfkcljoiaaEy
import Derived.Deep.Slices
import Derived.Deep.Fields
namespace Go.Proofs.Ytiifhkfkcljoiaa
open Go.ChangeShapes Go.WideShapes Go.ChangeAt Go.RowKit Go.Deep Go.Joins

set_option maxRecDepth 100000
theorem bOp : Try.prog.bytesOf 40 = 24 := by kernel_rfl
section
variable {H : Type} {enc : TypeId × Value → H} {w : World} {base : Nat} {sp : Nat → Bool} {held : Bool}
/-- one field of a struct whose cells are c0, c1, c2 -/
theorem one_of {t : TypeId} {q : IntKind} {n : Nat} {c : Value} {y : Option (DataW H × List MemPlace)} {l : List (DataW H × List MemPlace)} {i : Nat} (hu : Try.prog.underlying t = some (.int q)) (hy : y = l[i]?) (hi : i < l.length) (h : DataW.trod enc Try.prog w base sp held n t [c] = y) : ∃ x : Int, c = .int q x ∧ (Lit.int q x).wf = true := by
  rw [hy, List.getElem?_eq_getElem hi] at h
  obtain ⟨x, e0, _, w0⟩ := DataW.trod_int hu h
  exact ⟨x, (List.cons.inj e0).1, w0⟩
end
/-- a slice of structs of three numbers that came in -/
theorem open_triples {H : Type} {enc : TypeId × Value → H} {w : World} {t e : TypeId} {f0 f1 f2 : Field} {q0 q1 q2 : IntKind} {b0 : Nat} {v : Value} {d : DataW H} {ps : List MemPlace} (ht : Try.prog.underlying t = some (.slice e)) (he : Try.prog.underlying e = some (.struct #[f0, f1, f2]))
    (hone : oneCellFields Try.prog #[f0, f1, f2] = true) (hC : Try.prog.cellsOf e = 3) (u0 : Try.prog.underlying f0.type = some (.int q0)) (u1 : Try.prog.underlying f1.type = some (.int q1)) (u2 : Try.prog.underlying f2.type = some (.int q2))
    (hv : Value.okWide Try.prog w .any b0 t v) (h : DataW.Trod enc Try.prog w 0 (fun _ => true) true t v d ps) :
    ∃ (A : Option Addr) (ops : List (Int × Int × Int)) (cap : Nat), v = .slice A ops.length cap ∧ Ext3 q0 q1 q2 w A ops ∧ (∀ op ∈ ops, (Lit.int q0 op.1).wf = true ∧ (Lit.int q1 op.2.1).wf = true ∧ (Lit.int q2 op.2.2).wf = true) ∧ (ops = [] ∨ ∃ el sp, d = .slice el sp ∧ el.length = ops.length) := by
  obtain ⟨A, len, cap, rfl⟩ := okWide_slice ht hv
  obtain ⟨fuel, hf⟩ := h
  rcases open_slice ht hf with ⟨hcs, hx⟩ | ⟨a, len', cap', m, n, D, Pl, hcs, _, hl, _, hmm, hx, hi⟩
  · simp [Value.cells] at hcs
    obtain ⟨rfl, rfl, rfl⟩ := hcs
    exact ⟨none, [], 0, rfl, fun j x hx => by simp at hx, fun x hx => by simp at hx, .inl rfl⟩
  · simp [Value.cells] at hcs
    obtain ⟨rfl, rfl, rfl⟩ := hcs
    simp only [if_true] at hmm
    simp only [Prod.mk.injEq] at hx
    have key : ∀ i, ∃ x : Int × Int × Int, i < len → (w.cell? (a.add (i * 3)) = some (.int q0 x.1) ∧ w.cell? ((a.add (i * 3)).add 1) = some (.int q1 x.2.1) ∧ w.cell? ((a.add (i * 3)).add 2) = some (.int q2 x.2.2)) ∧ (Lit.int q0 x.1).wf = true ∧ (Lit.int q1 x.2.1).wf = true ∧ (Lit.int q2 x.2.2).wf = true := fun i => by
      by_cases hlt : i < len
      · obtain ⟨cs', hc, ht'⟩ := hi i (by omega)
        rw [hC] at hc
        obtain ⟨ys, n', _, _, hlen, hyl, hfl⟩ := DataW.trod_struct he ht'
        obtain ⟨_, hcl, hat⟩ := World.cells?_some hc
        obtain ⟨o0, k0⟩ := hone_of hone 0 f0 rfl
        obtain ⟨o1, k1⟩ := hone_of hone 1 f1 rfl
        obtain ⟨o2, k2⟩ := hone_of hone 2 f2 rfl
        have hyl3 : ys.length = 3 := hyl
        match cs', hcl with
        | [c0, c1, c2], _ =>
          obtain ⟨x0, rfl, w0⟩ := one_of u0 rfl (show 0 < ys.length by omega) (by simpa [o0, k0] using hfl 0 f0 rfl)
          obtain ⟨x1, rfl, w1⟩ := one_of u1 rfl (show 1 < ys.length by omega) (by simpa [o1, k1] using hfl 1 f1 rfl)
          obtain ⟨x2, rfl, w2⟩ := one_of u2 rfl (show 2 < ys.length by omega) (by simpa [o2, k2] using hfl 2 f2 rfl)
          refine ⟨(x0, x1, x2), fun _ => ⟨⟨?_, hat 1 (by omega), hat 2 (by omega)⟩, w0, w1, w2⟩⟩
          have h00 := hat 0 (by omega)
          have e0 : ∀ b : Addr, b.add 0 = b := fun b => by simp [Addr.add]
          rwa [e0] at h00
      · exact ⟨(0, 0, 0), fun h => absurd h hlt⟩
    obtain ⟨g, hg⟩ := Classical.axiomOfChoice key
    have hlen : ((List.range len).map g).length = len := by simp
    refine ⟨some a, (List.range len).map g, cap, by rw [hlen], fun j x hx' => ?_, fun x hx' => ?_, .inr ⟨_, _, hx.1, by simp⟩⟩
    · have hj : j < len := by have := (List.getElem?_eq_some_iff.1 hx').1; omega
      simp [hj] at hx'
      subst hx'
      obtain ⟨⟨h0, h1, h2⟩, _⟩ := hg j hj
      obtain ⟨b, o, s⟩ := a
      cases s with
      | none =>
        rw [Addr.add_lit] at h0 h1 h2
        rw [Addr.add_lit] at h1 h2
        exact ⟨b, o, rfl, World.block_lt_of_cell? _ _ h0, h0, h1, h2⟩
      | some s =>
        obtain ⟨⟨h0, _⟩, _⟩ := hg 0 (by omega)
        simp [Addr.add, World.cell?] at h0
        split at h0 <;> simp at h0
    · simp at hx'
      obtain ⟨j, hj, rfl⟩ := hx'
      exact (hg j hj).2
theorem oneSc : oneCellFields Try.prog #[⟨"Lowest", 2, 0, false, "", "", 0⟩, ⟨"Highest", 2, 1, false, "", "", 8⟩, ⟨"Digits", 3, 2, false, "", "", 16⟩] = true := by kernel_rfl
theorem cSc : Try.prog.cellsOf 23 = 3 := by kernel_rfl

section
variable {H : Type} {enc : TypeId × Value → H} {w : World} {base : Nat} {sp : Nat → Bool} {held : Bool}
theorem open_sc {r : Reach} {b0 : Nat} {v : Value} {d : DataW H} {ps : List MemPlace} (hv : Value.okWide Try.prog w r b0 23 v) (h : DataW.Trod enc Try.prog w base sp held 23 v d ps) :
    ∃ k i y : Int, v = .agg #[.int .i64 k, .int .i64 i, .int .i64 y] ∧ d = .agg [.lit (.int .i64 k), .lit (.int .i64 i), .lit (.int .i64 y)] ∧ ps = [] ∧ (Lit.int .i64 k).wf = true ∧ (Lit.int .i64 i).wf = true ∧ (Lit.int .i64 y).wf = true := by
  obtain ⟨v0, v1, v2, y0, y1, y2, m, rfl, rfl, rfl, h0, h1, h2⟩ := open_agg3 Try.underlying23 oneSc cSc hv h
  obtain ⟨k, e0, rfl, w0⟩ := DataW.trod_int Try.underlying2 h0
  obtain ⟨i, e1, rfl, w1⟩ := DataW.trod_int Try.underlying2 h1
  obtain ⟨y, e2, rfl, w2⟩ := DataW.trod_int Try.underlying3 h2
  obtain rfl := (List.cons.inj e0).1
  obtain rfl := (List.cons.inj e1).1
  obtain rfl := (List.cons.inj e2).1
  exact ⟨k, i, y, rfl, rfl, rfl, w0, w1, w2⟩
theorem shut_sc {k i y : Int} (hk : (Lit.int .i64 k).wf = true) (hi : (Lit.int .i64 i).wf = true) (hy : (Lit.int .i64 y).wf = true) :
    DataW.Trod enc Try.prog w base sp held 23 (.agg #[.int .i64 k, .int .i64 i, .int .i64 y]) (.agg [.lit (.int .i64 k), .lit (.int .i64 i), .lit (.int .i64 y)]) [] :=
  shut_agg3 (y0 := (.lit (.int .i64 k), [])) (y1 := (.lit (.int .i64 i), [])) (y2 := (.lit (.int .i64 y), [])) Try.underlying23 oneSc cSc (shut_k Try.underlying2 hk) (shut_k Try.underlying2 hi) (shut_k Try.underlying3 hy)
end
end Go.Proofs.Ytiifhkfkcljoiaa
