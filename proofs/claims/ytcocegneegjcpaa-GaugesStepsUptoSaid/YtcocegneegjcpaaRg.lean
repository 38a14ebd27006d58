/- WHAT EVERY ROW's PROOF OF PACKAGE gauges BEGINS AND ENDS BY: floats, lists of floats and of operations, opened. -/
import Derived.Test.YtcocegneegjcpaaRows
import Derived.Test.YtcocegneegjcpaaGj
import Derived.ProofKit
import Derived.SizedLaws
import Derived.Lib.SmallJoins
import Derived.Carry
import Derived.Deep.Slices
import Derived.Deep.Fields
import Derived.Laws.Cover2
namespace Go.Proofs.Ytcocegneegjcpaa
open Go.ChangeShapes Go.WideShapes Go.ChangeAt Go.RowKit Go.Deep Go.Joins

theorem own0 : ownKnob Try.prog.godebug = none := by kernel_rfl
theorem f64_bounds {n : Nat} (h : (Lit.float .f64 n).wf = true) : B64 n := by
  unfold B64
  simpa [Lit.wf] using h
set_option maxRecDepth 100000
theorem laid0 : laidOutB Try.prog = true := by kernel_rfl
theorem c1_f64 : Try.prog.cellsOf 22 = 1 := by kernel_rfl
theorem c1_int : Try.prog.cellsOf 3 = 1 := by kernel_rfl
theorem b8_f64 : Try.prog.bytesOf 22 = 8 := by kernel_rfl
theorem b8_int : Try.prog.bytesOf 3 = 8 := by kernel_rfl
theorem oneGO : oneCellFields Try.prog #[⟨"Kind", 33, 0, false, "", "", 0⟩, ⟨"X", 22, 1, false, "", "", 8⟩] = true := by kernel_rfl
theorem cGO : Try.prog.cellsOf 35 = 2 := by kernel_rfl
theorem bGO : Try.prog.bytesOf 35 = 16 := by kernel_rfl
theorem trod_float {H : Type} {enc : TypeId × Value → H} {w : World} {base : Nat} {spare : Nat → Bool} {held : Bool} {fuel : Nat} {t : TypeId} {cs : List Value} {x : DataW H × List MemPlace} {k : FloatKind} (ht : Try.prog.underlying t = some (.float k)) (h : DataW.trod enc Try.prog w base spare held fuel t cs = some x) : ∃ n, cs = [.float k n] ∧ x = (.lit (.float k n), []) ∧ (Lit.float k n).wf = true := by
  cases fuel with
  | zero => simp [DataW.trod] at h
  | succ n =>
    unfold DataW.trod at h
    rw [ht] at h
    split at h <;> simp_all
/-- a slice of numbers that came in -/
theorem open_nums {H : Type} {enc : TypeId × Value → H} {w : World} {t e : TypeId} {k : IntKind} {b0 : Nat} {v : Value} {d : DataW H} {ps : List MemPlace} (ht : Try.prog.underlying t = some (.slice e)) (he : Try.prog.underlying e = some (.int k)) (hc : Try.prog.cellsOf e = 1)
    (hv : Value.okWide Try.prog w .any b0 t v) (h : DataW.Trod enc Try.prog w 0 (fun _ => true) true t v d ps) :
    ∃ (A : Option Addr) (xs : List Int) (cap : Nat), v = .slice A xs.length cap ∧ Ext k w A xs ∧ (∀ x ∈ xs, (Lit.int k x).wf = true) ∧ (xs = [] ∨ ∃ el sp, d = .slice el sp ∧ el.length = xs.length) := by
  obtain ⟨A, len, cap, rfl⟩ := okWide_slice ht hv
  obtain ⟨fuel, hf⟩ := h
  rcases open_ints ht he hc hf with ⟨hcs, hx⟩ | ⟨a, len', cap', zs, hcs, _, hl, hm, hz, hx, hcell, hwz⟩
  · simp [Value.cells] at hcs
    obtain ⟨rfl, rfl, rfl⟩ := hcs
    exact ⟨none, [], 0, rfl, fun j x hx => by simp at hx, fun x hx => by simp at hx, .inl rfl⟩
  · simp [Value.cells] at hcs
    obtain ⟨rfl, rfl, rfl⟩ := hcs
    simp only [if_true] at hz
    simp only [Prod.mk.injEq] at hx
    have hlen : (zs.take len).length = len := by rw [List.length_take]; omega
    refine ⟨some a, zs.take len, cap, by rw [hlen], fun j x hx' => ?_, fun x hx' => hwz x (List.mem_of_mem_take hx'), .inr ⟨_, _, hx.1, by simp [lits]⟩⟩
    have hj : j < len := by have := (List.getElem?_eq_some_iff.1 hx').1; omega
    have h0 := hcell 0 (by omega)
    have hb := World.block_lt_of_cell? _ _ h0
    have hjc := hcell j (by omega)
    rw [List.getElem?_take_of_lt hj] at hx'
    have hv' : zs.getD j 0 = x := by simp [List.getD, hx']
    rw [hv'] at hjc
    obtain ⟨b, o, s⟩ := a
    cases s with
    | none => exact ⟨b, o, rfl, by simpa [Addr.add] using hb, by rw [Addr.add_lit] at hjc; exact hjc⟩
    | some s => simp [Addr.add, World.cell?] at h0; split at h0 <;> simp at h0
/-- a slice of floats that came in -/
theorem open_floats {H : Type} {enc : TypeId × Value → H} {w : World} {t e : TypeId} {b0 : Nat} {v : Value} {d : DataW H} {ps : List MemPlace} (ht : Try.prog.underlying t = some (.slice e)) (he : Try.prog.underlying e = some (.float .f64)) (hc : Try.prog.cellsOf e = 1)
    (hv : Value.okWide Try.prog w .any b0 t v) (h : DataW.Trod enc Try.prog w 0 (fun _ => true) true t v d ps) :
    ∃ (A : Option Addr) (xs : List Nat) (cap : Nat), v = .slice A xs.length cap ∧ ExtF w A xs ∧ (xs = [] ∨ ∃ el sp, d = .slice el sp ∧ el.length = xs.length) := by
  obtain ⟨A, len, cap, rfl⟩ := okWide_slice ht hv
  obtain ⟨fuel, hf⟩ := h
  rcases open_slice1 ht hc hf with ⟨hcs, hx⟩ | ⟨a, len', cap', m, n, V, D, Pl, hcs, _, hl, _, hmm, hx, hi⟩
  · simp [Value.cells] at hcs
    obtain ⟨rfl, rfl, rfl⟩ := hcs
    exact ⟨none, [], 0, rfl, fun j x hx => by simp at hx, .inl rfl⟩
  · simp [Value.cells] at hcs
    obtain ⟨rfl, rfl, rfl⟩ := hcs
    simp only [if_true] at hmm
    simp only [Prod.mk.injEq] at hx
    have key : ∀ i, ∃ x : Nat, i < len → w.cell? (a.add i) = some (.float .f64 x) ∧ B64 x := fun i => by
      by_cases hlt : i < len
      · obtain ⟨hc', ht'⟩ := hi i (by omega)
        obtain ⟨x, e0, _, w0⟩ := trod_float he ht'
        have e1 : V i = .float .f64 x := (List.cons.inj e0).1
        exact ⟨x, fun _ => ⟨by rw [hc', e1], f64_bounds w0⟩⟩
      · exact ⟨0, fun h => absurd h hlt⟩
    obtain ⟨g, hg⟩ := Classical.axiomOfChoice key
    have hlen : ((List.range len).map g).length = len := by simp
    refine ⟨some a, (List.range len).map g, cap, by rw [hlen], fun j x hx' => ?_, .inr ⟨_, _, hx.1, by simp⟩⟩
    have hj : j < len := by have := (List.getElem?_eq_some_iff.1 hx').1; omega
    simp [hj] at hx'
    subst hx'
    obtain ⟨h0, hb0⟩ := hg j hj
    obtain ⟨b, o, s⟩ := a
    cases s with
    | none =>
      rw [Addr.add_lit] at h0
      exact ⟨b, o, rfl, World.block_lt_of_cell? _ _ h0, h0, hb0⟩
    | some s =>
      obtain ⟨h0, _⟩ := hg 0 (by omega)
      simp [Addr.add, World.cell?] at h0
      split at h0 <;> simp at h0
/-- a slice of operations that came in reads as these -/
def ExtGO (w : World) (A : Option Addr) (ops : List (Int × Nat)) : Prop := ∀ j op, ops[j]? = some op → ∃ b o, A = some ⟨b, o, none⟩ ∧ b < w.heap.size ∧ w.cell? ⟨b, o + j * 2, none⟩ = some (.int .u8 op.1) ∧ w.cell? ⟨b, o + j * 2 + 1, none⟩ = some (.float .f64 op.2) ∧ B64 op.2
theorem ExtGO.on {w w' : World} {A : Option Addr} {ops : List (Int × Nat)} (h : ExtGO w A ops) (hb : Below w.heap.size w w') : ExtGO w' A ops := fun j op hj => by
  obtain ⟨b, o, e, hlt, h0, h1, hx⟩ := h j op hj
  exact ⟨b, o, e, Nat.lt_of_lt_of_le hlt hb.size, (hb.cell (p := ⟨b, o + j * 2, none⟩) hlt).trans h0, (hb.cell (p := ⟨b, o + j * 2 + 1, none⟩) hlt).trans h1, hx⟩
theorem open_gops {H : Type} {enc : TypeId × Value → H} {w : World} {t : TypeId} {b0 : Nat} {v : Value} {d : DataW H} {ps : List MemPlace} (ht : Try.prog.underlying t = some (.slice 35))
    (hv : Value.okWide Try.prog w .any b0 t v) (h : DataW.Trod enc Try.prog w 0 (fun _ => true) true t v d ps) :
    ∃ (A : Option Addr) (ops : List (Int × Nat)) (cap : Nat), v = .slice A ops.length cap ∧ ExtGO w A ops ∧ (ops = [] ∨ ∃ el sp, d = .slice el sp ∧ el.length = ops.length) := by
  obtain ⟨A, len, cap, rfl⟩ := okWide_slice ht hv
  obtain ⟨fuel, hf⟩ := h
  rcases open_slice ht hf with ⟨hcs, hx⟩ | ⟨a, len', cap', m, n, D, Pl, hcs, _, hl, _, hmm, hx, hi⟩
  · simp [Value.cells] at hcs
    obtain ⟨rfl, rfl, rfl⟩ := hcs
    exact ⟨none, [], 0, rfl, fun j x hx => by simp at hx, .inl rfl⟩
  · simp [Value.cells] at hcs
    obtain ⟨rfl, rfl, rfl⟩ := hcs
    simp only [if_true] at hmm
    simp only [Prod.mk.injEq] at hx
    have key : ∀ i, ∃ x : Int × Nat, i < len → (w.cell? (a.add (i * 2)) = some (.int .u8 x.1) ∧ w.cell? ((a.add (i * 2)).add 1) = some (.float .f64 x.2)) ∧ B64 x.2 := fun i => by
      by_cases hlt : i < len
      · obtain ⟨cs', hc, ht'⟩ := hi i (by omega)
        rw [cGO] at hc
        obtain ⟨ys, n', _, _, hlen, hyl, hfl⟩ := DataW.trod_struct Try.underlying35 ht'
        obtain ⟨_, hcl, hat⟩ := World.cells?_some hc
        obtain ⟨o0, k0⟩ := hone_of oneGO 0 _ rfl
        obtain ⟨o1, k1⟩ := hone_of oneGO 1 _ rfl
        have hyl2 : ys.length = 2 := hyl
        match cs', hcl with
        | [c0, c1], _ =>
          have f0 := hfl 0 _ rfl
          have f1 := hfl 1 _ rfl
          simp only [o0, k0] at f0
          simp only [o1, k1] at f1
          rw [List.getElem?_eq_getElem (show 0 < ys.length by omega)] at f0
          rw [List.getElem?_eq_getElem (show 1 < ys.length by omega)] at f1
          obtain ⟨x0, e0, _, _⟩ := DataW.trod_int Try.underlying33 f0
          obtain ⟨x1, e1, _, w1⟩ := trod_float Try.underlying22 f1
          have g0 : c0 = .int .u8 x0 := by simpa using e0
          have g1 : c1 = .float .f64 x1 := by simpa using e1
          subst g0
          subst g1
          refine ⟨(x0, x1), fun _ => ⟨⟨?_, hat 1 (by omega)⟩, f64_bounds w1⟩⟩
          have h00 := hat 0 (by omega)
          have e0 : ∀ b : Addr, b.add 0 = b := fun b => by simp [Addr.add]
          rwa [e0] at h00
      · exact ⟨(0, 0), fun h => absurd h hlt⟩
    obtain ⟨g, hg⟩ := Classical.axiomOfChoice key
    have hlen : ((List.range len).map g).length = len := by simp
    refine ⟨some a, (List.range len).map g, cap, by rw [hlen], fun j x hx' => ?_, .inr ⟨_, _, hx.1, by simp⟩⟩
    have hj : j < len := by have := (List.getElem?_eq_some_iff.1 hx').1; omega
    simp [hj] at hx'
    subst hx'
    obtain ⟨⟨h0, h1⟩, hb0⟩ := hg j hj
    obtain ⟨b, o, s⟩ := a
    cases s with
    | none =>
      rw [Addr.add_lit] at h0 h1
      rw [Addr.add_lit] at h1
      exact ⟨b, o, rfl, World.block_lt_of_cell? _ _ h0, h0, h1, hb0⟩
    | some s =>
      obtain ⟨⟨h0, _⟩, _⟩ := hg 0 (by omega)
      simp [Addr.add, World.cell?] at h0
      split at h0 <;> simp at h0
end Go.Proofs.Ytcocegneegjcpaa
