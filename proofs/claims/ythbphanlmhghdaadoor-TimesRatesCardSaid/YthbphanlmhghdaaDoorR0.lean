/- WHAT EVERY ROW's PROOF BEGINS AND ENDS BY: a rate opened and shut; the bounds of an int64; a text within reach. -/
import Derived.Test.YthbphanlmhghdaaDoorLz
import Derived.Lib.SmallJoins
namespace Go.Proofs.YthbphanlmhghdaaDoor
open Go.ChangeShapes Go.WideShapes Go.ChangeAt Go.RowKit Go.Deep Go.Joins

theorem i64_bounds {n : Int} (h : (Lit.int .i64 n).wf = true) : -9223372036854775808 ≤ n ∧ n ≤ 9223372036854775807 := by
  simp only [Lit.wf, IntKind.min, IntKind.max, IntKind.signed, IntKind.bits, Bool.and_eq_true, decide_eq_true_eq, if_true] at h
  omega
set_option maxRecDepth 100000
theorem one29 : oneCellFields Tryd.prog #[⟨"N", 2, 0, false, "", "", 0⟩, ⟨"Per", 2, 1, false, "", "", 8⟩] = true := by kernel_rfl
theorem c29 : Tryd.prog.cellsOf 29 = 2 := by kernel_rfl

section
variable {H : Type} {enc : TypeId × Value → H} {w : World} {base : Nat} {sp : Nat → Bool} {held : Bool}
theorem open_rate {r : Reach} {b0 : Nat} {v : Value} {d : DataW H} {ps : List MemPlace} (hv : Value.okWide Tryd.prog w r b0 29 v) (h : DataW.Trod enc Tryd.prog w base sp held 29 v d ps) :
    ∃ n p : Int, v = .agg #[.int .i64 n, .int .i64 p] ∧ d = .agg [.lit (.int .i64 n), .lit (.int .i64 p)] ∧ ps = [] ∧ (Lit.int .i64 n).wf = true ∧ (Lit.int .i64 p).wf = true := by
  obtain ⟨v0, v1, y0, y1, m, rfl, rfl, rfl, h0, h1⟩ := open_agg2 Tryd.underlying29 one29 c29 hv h
  obtain ⟨n, e0, rfl, w0⟩ := DataW.trod_int Tryd.underlying2 h0
  obtain ⟨p, e1, rfl, w1⟩ := DataW.trod_int Tryd.underlying2 h1
  obtain rfl := (List.cons.inj e0).1
  obtain rfl := (List.cons.inj e1).1
  exact ⟨n, p, rfl, rfl, rfl, w0, w1⟩
theorem shut_i64 {n : Int} (hn : (Lit.int .i64 n).wf = true) : ∃ m, DataW.trod enc Tryd.prog w base sp held m 2 [.int .i64 n] = some (.lit (.int .i64 n), []) :=
  ⟨1, by simp [DataW.trod, Tryd.underlying2, hn]⟩
theorem shut_rate {n p : Int} (hn : (Lit.int .i64 n).wf = true) (hp : (Lit.int .i64 p).wf = true) :
    DataW.Trod enc Tryd.prog w base sp held 29 (.agg #[.int .i64 n, .int .i64 p]) (.agg [.lit (.int .i64 n), .lit (.int .i64 p)]) [] :=
  shut_agg2 (y0 := (.lit (.int .i64 n), [])) (y1 := (.lit (.int .i64 p), [])) Tryd.underlying29 one29 c29 (shut_i64 hn) (shut_i64 hp)
end
end Go.Proofs.YthbphanlmhghdaaDoor
