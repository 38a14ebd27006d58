/- WHAT EVERY ROW's PROOF OF PACKAGE quota BEGINS AND ENDS BY: an operation, lists of operations, numbers and bools, opened and shut. -/
import Derived.Test.YtddlalljdecdoaaRows
import Derived.Test.YtddlalljdecdoaaEx
import Derived.Test.YtddlalljdecdoaaEp
import Derived.ProofKit
import Derived.SizedLaws
import Derived.Lib.SmallJoins
import Derived.Carry
import Derived.Deep.Slices
import Derived.Deep.Fields
import Derived.Deep.Grids
namespace Go.Proofs.Ytddlalljdecdoaa
open Go.ChangeShapes Go.WideShapes Go.ChangeAt Go.RowKit Go.Deep Go.Joins

theorem own0 : ownKnob Try.prog.godebug = none := by kernel_rfl
theorem i64_bounds {n : Int} (h : (Lit.int .i64 n).wf = true) : -9223372036854775808 ≤ n ∧ n ≤ 9223372036854775807 := by
  simp only [Lit.wf, IntKind.min, IntKind.max, IntKind.signed, IntKind.bits, Bool.and_eq_true, decide_eq_true_eq, if_true] at h
  omega
set_option maxRecDepth 100000
theorem oneQop : oneCellFields Try.prog #[⟨"Kind", 35, 0, false, "", "", 0⟩, ⟨"Worker", 3, 1, false, "", "", 8⟩] = true := by kernel_rfl
theorem cQop : Try.prog.cellsOf 37 = 2 := by kernel_rfl
theorem bQop : Try.prog.bytesOf 37 = 16 := by kernel_rfl

section
variable {H : Type} {enc : TypeId × Value → H} {w : World} {base : Nat} {sp : Nat → Bool} {held : Bool}
theorem open_qop {r : Reach} {b0 : Nat} {v : Value} {d : DataW H} {ps : List MemPlace} (hv : Value.okWide Try.prog w r b0 37 v) (h : DataW.Trod enc Try.prog w base sp held 37 v d ps) :
    ∃ k i : Int, v = .agg #[.int .u8 k, .int .i64 i] ∧ d = .agg [.lit (.int .u8 k), .lit (.int .i64 i)] ∧ ps = [] ∧ (Lit.int .u8 k).wf = true ∧ (Lit.int .i64 i).wf = true := by
  obtain ⟨v0, v1, y0, y1, m, rfl, rfl, rfl, h0, h1⟩ := open_agg2 Try.underlying37 oneQop cQop hv h
  obtain ⟨k, e0, rfl, w0⟩ := DataW.trod_int Try.underlying35 h0
  obtain ⟨i, e1, rfl, w1⟩ := DataW.trod_int Try.underlying3 h1
  obtain rfl := (List.cons.inj e0).1
  obtain rfl := (List.cons.inj e1).1
  exact ⟨k, i, rfl, rfl, rfl, w0, w1⟩
theorem shut_k {t : TypeId} {q : IntKind} {n : Int} (hu : Try.prog.underlying t = some (.int q)) (hn : (Lit.int q n).wf = true) : ∃ m, DataW.trod enc Try.prog w base sp held m t [.int q n] = some (.lit (.int q n), []) :=
  ⟨1, by simp [DataW.trod, hu, hn]⟩
theorem shut_qop {k i : Int} (hk : (Lit.int .u8 k).wf = true) (hi : (Lit.int .i64 i).wf = true) :
    DataW.Trod enc Try.prog w base sp held 37 (.agg #[.int .u8 k, .int .i64 i]) (.agg [.lit (.int .u8 k), .lit (.int .i64 i)]) [] :=
  shut_agg2 (y0 := (.lit (.int .u8 k), [])) (y1 := (.lit (.int .i64 i), [])) Try.underlying37 oneQop cQop (shut_k Try.underlying35 hk) (shut_k Try.underlying3 hi)
end
theorem laid0 : laidOutB Try.prog = true := by kernel_rfl
theorem c1_u64 : Try.prog.cellsOf 39 = 1 := by kernel_rfl
theorem c1_int : Try.prog.cellsOf 3 = 1 := by kernel_rfl
theorem c1_bool : Try.prog.cellsOf 4 = 1 := by kernel_rfl
theorem b8_u64 : Try.prog.bytesOf 39 = 8 := by kernel_rfl
theorem b8_int : Try.prog.bytesOf 3 = 8 := by kernel_rfl
/-- a slice of numbers that came in -/
theorem open_nums {H : Type} {enc : TypeId × Value → H} {w : World} {t e : TypeId} {k : IntKind} {b0 : Nat} {v : Value} {d : DataW H} {ps : List MemPlace} (ht : Try.prog.underlying t = some (.slice e)) (he : Try.prog.underlying e = some (.int k)) (hc : Try.prog.cellsOf e = 1)
    (hv : Value.okWide Try.prog w .any b0 t v) (h : DataW.Trod enc Try.prog w 0 (fun _ => true) true t v d ps) :
    ∃ (A : Option Addr) (xs : List Int) (cap : Nat), v = .slice A xs.length cap ∧ Ext k w A xs ∧ (∀ x ∈ xs, (Lit.int k x).wf = true) ∧ (xs = [] ∨ ∃ el sp, d = .slice el sp ∧ el.length = xs.length) := by
  obtain ⟨A, len, cap, rfl⟩ := okWide_slice ht hv
  obtain ⟨fuel, hf⟩ := h
  rcases open_ints ht he hc hf with ⟨hcs, hx⟩ | ⟨a, len', cap', zs, hcs, _, hl, hm, hz, hx, hcell, hwz⟩
  · simp [Value.cells] at hcs
    obtain ⟨rfl, rfl, rfl⟩ := hcs
    exact ⟨none, [], 0, rfl, fun j x hx => by simp at hx, fun x hx => by simp at hx, .inl rfl⟩
  · simp [Value.cells] at hcs
    obtain ⟨rfl, rfl, rfl⟩ := hcs
    simp only [if_true] at hz
    simp only [Prod.mk.injEq] at hx
    have hlen : (zs.take len).length = len := by rw [List.length_take]; omega
    refine ⟨some a, zs.take len, cap, by rw [hlen], fun j x hx' => ?_, fun x hx' => hwz x (List.mem_of_mem_take hx'), .inr ⟨_, _, hx.1, by simp [lits]⟩⟩
    have hj : j < len := by have := (List.getElem?_eq_some_iff.1 hx').1; omega
    have h0 := hcell 0 (by omega)
    have hb := World.block_lt_of_cell? _ _ h0
    have hjc := hcell j (by omega)
    rw [List.getElem?_take_of_lt hj] at hx'
    have hv' : zs.getD j 0 = x := by simp [List.getD, hx']
    rw [hv'] at hjc
    obtain ⟨b, o, s⟩ := a
    cases s with
    | none => exact ⟨b, o, rfl, by simpa [Addr.add] using hb, by rw [Addr.add_lit] at hjc; exact hjc⟩
    | some s => simp [Addr.add, World.cell?] at h0; split at h0 <;> simp at h0
section
variable {H : Type} {enc : TypeId × Value → H} {w : World} {base : Nat} {sp : Nat → Bool} {held : Bool}
/-- one field of a struct of one-cell fields -/
theorem one_of {t : TypeId} {q : IntKind} {n : Nat} {c : Value} {y : Option (DataW H × List MemPlace)} {l : List (DataW H × List MemPlace)} {i : Nat} (hu : Try.prog.underlying t = some (.int q)) (hy : y = l[i]?) (hi : i < l.length) (h : DataW.trod enc Try.prog w base sp held n t [c] = y) : ∃ x : Int, c = .int q x ∧ (Lit.int q x).wf = true := by
  rw [hy, List.getElem?_eq_getElem hi] at h
  obtain ⟨x, e0, _, w0⟩ := DataW.trod_int hu h
  exact ⟨x, (List.cons.inj e0).1, w0⟩
end
/-- a slice of structs of two numbers that came in -/
theorem open_pairs {H : Type} {enc : TypeId × Value → H} {w : World} {t e : TypeId} {f0 f1 : Field} {q0 q1 : IntKind} {b0 : Nat} {v : Value} {d : DataW H} {ps : List MemPlace} (ht : Try.prog.underlying t = some (.slice e)) (he : Try.prog.underlying e = some (.struct #[f0, f1]))
    (hone : oneCellFields Try.prog #[f0, f1] = true) (hC : Try.prog.cellsOf e = 2) (u0 : Try.prog.underlying f0.type = some (.int q0)) (u1 : Try.prog.underlying f1.type = some (.int q1))
    (hv : Value.okWide Try.prog w .any b0 t v) (h : DataW.Trod enc Try.prog w 0 (fun _ => true) true t v d ps) :
    ∃ (A : Option Addr) (ops : List (Int × Int)) (cap : Nat), v = .slice A ops.length cap ∧ Ext2 q0 q1 w A ops ∧ (∀ op ∈ ops, (Lit.int q0 op.1).wf = true ∧ (Lit.int q1 op.2).wf = true) ∧ (ops = [] ∨ ∃ el sp, d = .slice el sp ∧ el.length = ops.length) := by
  obtain ⟨A, len, cap, rfl⟩ := okWide_slice ht hv
  obtain ⟨fuel, hf⟩ := h
  rcases open_slice ht hf with ⟨hcs, hx⟩ | ⟨a, len', cap', m, n, D, Pl, hcs, _, hl, _, hmm, hx, hi⟩
  · simp [Value.cells] at hcs
    obtain ⟨rfl, rfl, rfl⟩ := hcs
    exact ⟨none, [], 0, rfl, fun j x hx => by simp at hx, fun x hx => by simp at hx, .inl rfl⟩
  · simp [Value.cells] at hcs
    obtain ⟨rfl, rfl, rfl⟩ := hcs
    simp only [if_true] at hmm
    simp only [Prod.mk.injEq] at hx
    have key : ∀ i, ∃ x : Int × Int, i < len → (w.cell? (a.add (i * 2)) = some (.int q0 x.1) ∧ w.cell? ((a.add (i * 2)).add 1) = some (.int q1 x.2)) ∧ (Lit.int q0 x.1).wf = true ∧ (Lit.int q1 x.2).wf = true := fun i => by
      by_cases hlt : i < len
      · obtain ⟨cs', hc, ht'⟩ := hi i (by omega)
        rw [hC] at hc
        obtain ⟨ys, n', _, _, hlen, hyl, hfl⟩ := DataW.trod_struct he ht'
        obtain ⟨_, hcl, hat⟩ := World.cells?_some hc
        obtain ⟨o0, k0⟩ := hone_of hone 0 f0 rfl
        obtain ⟨o1, k1⟩ := hone_of hone 1 f1 rfl
        have hyl3 : ys.length = 2 := hyl
        match cs', hcl with
        | [c0, c1], _ =>
          obtain ⟨x0, rfl, w0⟩ := one_of u0 rfl (show 0 < ys.length by omega) (by simpa [o0, k0] using hfl 0 f0 rfl)
          obtain ⟨x1, rfl, w1⟩ := one_of u1 rfl (show 1 < ys.length by omega) (by simpa [o1, k1] using hfl 1 f1 rfl)
          refine ⟨(x0, x1), fun _ => ⟨⟨?_, hat 1 (by omega)⟩, w0, w1⟩⟩
          have h00 := hat 0 (by omega)
          have e0 : ∀ b : Addr, b.add 0 = b := fun b => by simp [Addr.add]
          rwa [e0] at h00
      · exact ⟨(0, 0), fun h => absurd h hlt⟩
    obtain ⟨g, hg⟩ := Classical.axiomOfChoice key
    have hlen : ((List.range len).map g).length = len := by simp
    refine ⟨some a, (List.range len).map g, cap, by rw [hlen], fun j x hx' => ?_, fun x hx' => ?_, .inr ⟨_, _, hx.1, by simp⟩⟩
    · have hj : j < len := by have := (List.getElem?_eq_some_iff.1 hx').1; omega
      simp [hj] at hx'
      subst hx'
      obtain ⟨⟨h0, h1⟩, _⟩ := hg j hj
      obtain ⟨b, o, s⟩ := a
      cases s with
      | none =>
        rw [Addr.add_lit] at h0 h1
        rw [Addr.add_lit] at h1
        exact ⟨b, o, rfl, World.block_lt_of_cell? _ _ h0, h0, h1⟩
      | some s =>
        obtain ⟨⟨h0, _⟩, _⟩ := hg 0 (by omega)
        simp [Addr.add, World.cell?] at h0
        split at h0 <;> simp at h0
    · simp at hx'
      obtain ⟨j, hj, rfl⟩ := hx'
      exact (hg j hj).2
/-- a slice of bools that came in -/
theorem open_flags {H : Type} {enc : TypeId × Value → H} {w : World} {b0 : Nat} {v : Value} {d : DataW H} {ps : List MemPlace}
    (hv : Value.okWide Try.prog w .any b0 63 v) (h : DataW.Trod enc Try.prog w 0 (fun _ => true) true 63 v d ps) :
    ∃ (A : Option Addr) (xs : List Bool) (cap : Nat), v = .slice A xs.length cap ∧ ExtB w A xs := by
  obtain ⟨A, len, cap, rfl⟩ := okWide_slice Try.underlying63 hv
  obtain ⟨fuel, hf⟩ := h
  rcases open_bools Try.underlying63 Try.underlying4 c1_bool hf with ⟨hcs, hx⟩ | ⟨a, len', cap', B, hcs, _, hl, hm, hx, hcell⟩
  · simp [Value.cells] at hcs
    obtain ⟨rfl, rfl, rfl⟩ := hcs
    exact ⟨none, [], 0, rfl, fun j x hx => by simp at hx⟩
  · simp [Value.cells] at hcs
    obtain ⟨rfl, rfl, rfl⟩ := hcs
    refine ⟨some a, (List.range len).map B, cap, by simp, fun j x hx' => ?_⟩
    have hj : j < len := by have := (List.getElem?_eq_some_iff.1 hx').1; simpa using this
    simp [hj] at hx'
    subst hx'
    have h0 := hcell 0 (by omega)
    have hb := World.block_lt_of_cell? _ _ h0
    have hjc := hcell j (by omega)
    obtain ⟨b, o, s⟩ := a
    cases s with
    | none => exact ⟨b, o, rfl, by simpa [Addr.add] using hb, by rw [Addr.add_lit] at hjc; exact hjc⟩
    | some s => simp [Addr.add, World.cell?] at h0; split at h0 <;> simp at h0
section
variable {H : Type} {enc : TypeId × Value → H} {w : World} {base : Nat} {sp : Nat → Bool} {held : Bool} {P : Program}
/-- five parameters -/
theorem trodAll_five {t0 t1 t2 t3 t4 : TypeId} {args : Array Value} {ds : List (DataW H)} {ps : List MemPlace} (h : DataW.TrodAll enc P w base sp held [t0, t1, t2, t3, t4] args.toList ds ps) :
    ∃ v0 v1 v2 v3 v4 d0 d1 d2 d3 d4 p0 p1 p2 p3 p4, args = #[v0, v1, v2, v3, v4] ∧ ds = [d0, d1, d2, d3, d4] ∧ ps = p0 ++ p1 ++ p2 ++ p3 ++ p4 ∧ DataW.Trod enc P w base sp held t0 v0 d0 p0 ∧ DataW.Trod enc P w base sp held t1 v1 d1 p1 ∧ DataW.Trod enc P w base sp held t2 v2 d2 p2 ∧ DataW.Trod enc P w base sp held t3 v3 d3 p3 ∧ DataW.Trod enc P w base sp held t4 v4 d4 p4 := by
  obtain ⟨v0, l0, d0, e0, p0, r0, ha, rfl, rfl, h0, k0⟩ := trodAll_cons h
  have ha' : args = (v0 :: l0).toArray := by rw [← ha]
  obtain ⟨v1, v2, v3, v4, d1, d2, d3, d4, p1, p2, p3, p4, hv, rfl, rfl, h1, h2, h3, h4⟩ := trodAll_four (args := l0.toArray) k0
  have hl : l0 = [v1, v2, v3, v4] := congrArg Array.toList hv
  subst hl
  exact ⟨v0, v1, v2, v3, v4, d0, d1, d2, d3, d4, p0, p1, p2, p3, p4, ha', rfl, by simp, h0, h1, h2, h3, h4⟩
theorem trodAll_mk5 {t0 t1 t2 t3 t4 : TypeId} {v0 v1 v2 v3 v4 : Value} {d0 d1 d2 d3 d4 : DataW H} {p0 p1 p2 p3 p4 : List MemPlace} (h0 : DataW.Trod enc P w base sp held t0 v0 d0 p0) (h1 : DataW.Trod enc P w base sp held t1 v1 d1 p1)
    (h2 : DataW.Trod enc P w base sp held t2 v2 d2 p2) (h3 : DataW.Trod enc P w base sp held t3 v3 d3 p3) (h4 : DataW.Trod enc P w base sp held t4 v4 d4 p4) :
    DataW.TrodAll enc P w base sp held [t0, t1, t2, t3, t4] [v0, v1, v2, v3, v4] [d0, d1, d2, d3, d4] (p0 ++ (p1 ++ (p2 ++ (p3 ++ p4)))) := ⟨p0, p1 ++ (p2 ++ (p3 ++ p4)), h0, trodAll_mk4 h1 h2 h3 h4, rfl⟩
end
end Go.Proofs.Ytddlalljdecdoaa
