/- WHAT EVERY ROW's PROOF OF PACKAGE hist BEGINS AND ENDS BY: an operation opened and shut. -/
import Derived.Test.YtiifhkfkcljoiaaRows
import Derived.Test.YtiifhkfkcljoiaaEx
import Derived.ProofKit
import Derived.SizedLaws
import Derived.Lib.SmallJoins
import Derived.Carry
namespace Go.Proofs.Ytiifhkfkcljoiaa
open Go.ChangeShapes Go.WideShapes Go.ChangeAt Go.RowKit Go.Deep Go.Joins

theorem own0 : ownKnob Try.prog.godebug = none := by kernel_rfl
theorem i64_bounds {n : Int} (h : (Lit.int .i64 n).wf = true) : -9223372036854775808 ≤ n ∧ n ≤ 9223372036854775807 := by
  simp only [Lit.wf, IntKind.min, IntKind.max, IntKind.signed, IntKind.bits, Bool.and_eq_true, decide_eq_true_eq, if_true] at h
  omega
theorem u64_bounds {n : Int} (h : (Lit.int .u64 n).wf = true) : U64 n := by
  unfold U64
  simp [Lit.wf, IntKind.min, IntKind.max, IntKind.signed, IntKind.bits] at h
  omega
set_option maxRecDepth 100000
theorem oneOp : oneCellFields Try.prog #[⟨"Kind", 37, 0, false, "", "", 0⟩, ⟨"V", 2, 1, false, "", "", 8⟩, ⟨"N", 38, 2, false, "", "", 16⟩] = true := by kernel_rfl
theorem cOp : Try.prog.cellsOf 40 = 3 := by kernel_rfl

section
variable {H : Type} {enc : TypeId × Value → H} {w : World} {base : Nat} {sp : Nat → Bool} {held : Bool}
theorem open_op {r : Reach} {b0 : Nat} {v : Value} {d : DataW H} {ps : List MemPlace} (hv : Value.okWide Try.prog w r b0 40 v) (h : DataW.Trod enc Try.prog w base sp held 40 v d ps) :
    ∃ k i y : Int, v = .agg #[.int .u8 k, .int .i64 i, .int .u64 y] ∧ d = .agg [.lit (.int .u8 k), .lit (.int .i64 i), .lit (.int .u64 y)] ∧ ps = [] ∧ (Lit.int .u8 k).wf = true ∧ (Lit.int .i64 i).wf = true ∧ (Lit.int .u64 y).wf = true := by
  obtain ⟨v0, v1, v2, y0, y1, y2, m, rfl, rfl, rfl, h0, h1, h2⟩ := open_agg3 Try.underlying40 oneOp cOp hv h
  obtain ⟨k, e0, rfl, w0⟩ := DataW.trod_int Try.underlying37 h0
  obtain ⟨i, e1, rfl, w1⟩ := DataW.trod_int Try.underlying2 h1
  obtain ⟨y, e2, rfl, w2⟩ := DataW.trod_int Try.underlying38 h2
  obtain rfl := (List.cons.inj e0).1
  obtain rfl := (List.cons.inj e1).1
  obtain rfl := (List.cons.inj e2).1
  exact ⟨k, i, y, rfl, rfl, rfl, w0, w1, w2⟩
theorem shut_k {t : TypeId} {q : IntKind} {n : Int} (hu : Try.prog.underlying t = some (.int q)) (hn : (Lit.int q n).wf = true) : ∃ m, DataW.trod enc Try.prog w base sp held m t [.int q n] = some (.lit (.int q n), []) :=
  ⟨1, by simp [DataW.trod, hu, hn]⟩
theorem shut_op {k i y : Int} (hk : (Lit.int .u8 k).wf = true) (hi : (Lit.int .i64 i).wf = true) (hy : (Lit.int .u64 y).wf = true) :
    DataW.Trod enc Try.prog w base sp held 40 (.agg #[.int .u8 k, .int .i64 i, .int .u64 y]) (.agg [.lit (.int .u8 k), .lit (.int .i64 i), .lit (.int .u64 y)]) [] :=
  shut_agg3 (y0 := (.lit (.int .u8 k), [])) (y1 := (.lit (.int .i64 i), [])) (y2 := (.lit (.int .u64 y), [])) Try.underlying40 oneOp cOp (shut_k Try.underlying37 hk) (shut_k Try.underlying2 hi) (shut_k Try.underlying38 hy)
end

theorem laid0 : laidOutB Try.prog = true := by kernel_rfl
theorem c1_u64 : Try.prog.cellsOf 38 = 1 := by kernel_rfl
theorem c1_int : Try.prog.cellsOf 3 = 1 := by kernel_rfl
theorem b8_u64 : Try.prog.bytesOf 38 = 8 := by kernel_rfl
theorem b8_int : Try.prog.bytesOf 3 = 8 := by kernel_rfl
/-- a slice of numbers that came in -/
theorem open_nums {H : Type} {enc : TypeId × Value → H} {w : World} {t e : TypeId} {k : IntKind} {b0 : Nat} {v : Value} {d : DataW H} {ps : List MemPlace} (ht : Try.prog.underlying t = some (.slice e)) (he : Try.prog.underlying e = some (.int k)) (hc : Try.prog.cellsOf e = 1)
    (hv : Value.okWide Try.prog w .any b0 t v) (h : DataW.Trod enc Try.prog w 0 (fun _ => true) true t v d ps) :
    ∃ (A : Option Addr) (xs : List Int) (cap : Nat), v = .slice A xs.length cap ∧ Ext k w A xs ∧ (∀ x ∈ xs, (Lit.int k x).wf = true) ∧ (xs = [] ∨ ∃ el sp, d = .slice el sp ∧ el.length = xs.length) := by
  obtain ⟨A, len, cap, rfl⟩ := okWide_slice ht hv
  obtain ⟨fuel, hf⟩ := h
  rcases open_ints ht he hc hf with ⟨hcs, hx⟩ | ⟨a, len', cap', zs, hcs, _, hl, hm, hz, hx, hcell, hwz⟩
  · simp [Value.cells] at hcs
    obtain ⟨rfl, rfl, rfl⟩ := hcs
    exact ⟨none, [], 0, rfl, fun j x hx => by simp at hx, fun x hx => by simp at hx, .inl rfl⟩
  · simp [Value.cells] at hcs
    obtain ⟨rfl, rfl, rfl⟩ := hcs
    simp only [if_true] at hz
    simp only [Prod.mk.injEq] at hx
    have hlen : (zs.take len).length = len := by rw [List.length_take]; omega
    refine ⟨some a, zs.take len, cap, by rw [hlen], fun j x hx' => ?_, fun x hx' => hwz x (List.mem_of_mem_take hx'), .inr ⟨_, _, hx.1, by simp [lits]⟩⟩
    have hj : j < len := by have := (List.getElem?_eq_some_iff.1 hx').1; omega
    have h0 := hcell 0 (by omega)
    have hb := World.block_lt_of_cell? _ _ h0
    have hjc := hcell j (by omega)
    rw [List.getElem?_take_of_lt hj] at hx'
    have hv' : zs.getD j 0 = x := by simp [List.getD, hx']
    rw [hv'] at hjc
    obtain ⟨b, o, s⟩ := a
    cases s with
    | none => exact ⟨b, o, rfl, by simpa [Addr.add] using hb, by rw [Addr.add_lit] at hjc; exact hjc⟩
    | some s => simp [Addr.add, World.cell?] at h0; split at h0 <;> simp at h0
end Go.Proofs.Ytiifhkfkcljoiaa
