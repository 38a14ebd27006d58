/- WHAT EVERY ROW's PROOF OF PACKAGE scale BEGINS AND ENDS BY: a scale opened and shut. -/
import Derived.Test.YtaeffkgnfbomdaaRows
import Derived.ProofKit
import Derived.SizedLaws
import Derived.Lib.SmallJoins
import Derived.Carry
import Derived.Laws.Cover2
namespace Go.Proofs.Ytaeffkgnfbomdaa
open Go.ChangeShapes Go.WideShapes Go.ChangeAt Go.RowKit Go.Deep Go.Joins

theorem own0 : ownKnob Try.prog.godebug = none := by kernel_rfl
theorem i64_bounds {n : Int} (h : (Lit.int .i64 n).wf = true) : -9223372036854775808 ≤ n ∧ n ≤ 9223372036854775807 := by
  simp only [Lit.wf, IntKind.min, IntKind.max, IntKind.signed, IntKind.bits, Bool.and_eq_true, decide_eq_true_eq, if_true] at h
  omega
theorem f64_bounds {n : Nat} (h : (Lit.float .f64 n).wf = true) : n < 18446744073709551616 := by
  simpa [Lit.wf] using h
set_option maxRecDepth 100000
theorem oneSc : oneCellFields Try.prog #[⟨"Lowest", 2, 0, false, "", "", 0⟩, ⟨"Highest", 2, 1, false, "", "", 8⟩, ⟨"Digits", 3, 2, false, "", "", 16⟩] = true := by kernel_rfl
theorem cSc : Try.prog.cellsOf 23 = 3 := by kernel_rfl

section
variable {H : Type} {enc : TypeId × Value → H} {w : World} {base : Nat} {sp : Nat → Bool} {held : Bool}
theorem open_sc {r : Reach} {b0 : Nat} {v : Value} {d : DataW H} {ps : List MemPlace} (hv : Value.okWide Try.prog w r b0 23 v) (h : DataW.Trod enc Try.prog w base sp held 23 v d ps) :
    ∃ k i y : Int, v = .agg #[.int .i64 k, .int .i64 i, .int .i64 y] ∧ d = .agg [.lit (.int .i64 k), .lit (.int .i64 i), .lit (.int .i64 y)] ∧ ps = [] ∧ (Lit.int .i64 k).wf = true ∧ (Lit.int .i64 i).wf = true ∧ (Lit.int .i64 y).wf = true := by
  obtain ⟨v0, v1, v2, y0, y1, y2, m, rfl, rfl, rfl, h0, h1, h2⟩ := open_agg3 Try.underlying23 oneSc cSc hv h
  obtain ⟨k, e0, rfl, w0⟩ := DataW.trod_int Try.underlying2 h0
  obtain ⟨i, e1, rfl, w1⟩ := DataW.trod_int Try.underlying2 h1
  obtain ⟨y, e2, rfl, w2⟩ := DataW.trod_int Try.underlying3 h2
  obtain rfl := (List.cons.inj e0).1
  obtain rfl := (List.cons.inj e1).1
  obtain rfl := (List.cons.inj e2).1
  exact ⟨k, i, y, rfl, rfl, rfl, w0, w1, w2⟩
theorem shut_k {t : TypeId} {q : IntKind} {n : Int} (hu : Try.prog.underlying t = some (.int q)) (hn : (Lit.int q n).wf = true) : ∃ m, DataW.trod enc Try.prog w base sp held m t [.int q n] = some (.lit (.int q n), []) :=
  ⟨1, by simp [DataW.trod, hu, hn]⟩
theorem shut_sc {k i y : Int} (hk : (Lit.int .i64 k).wf = true) (hi : (Lit.int .i64 i).wf = true) (hy : (Lit.int .i64 y).wf = true) :
    DataW.Trod enc Try.prog w base sp held 23 (.agg #[.int .i64 k, .int .i64 i, .int .i64 y]) (.agg [.lit (.int .i64 k), .lit (.int .i64 i), .lit (.int .i64 y)]) [] :=
  shut_agg3 (y0 := (.lit (.int .i64 k), [])) (y1 := (.lit (.int .i64 i), [])) (y2 := (.lit (.int .i64 y), [])) Try.underlying23 oneSc cSc (shut_k Try.underlying2 hk) (shut_k Try.underlying2 hi) (shut_k Try.underlying3 hy)
end
end Go.Proofs.Ytaeffkgnfbomdaa
