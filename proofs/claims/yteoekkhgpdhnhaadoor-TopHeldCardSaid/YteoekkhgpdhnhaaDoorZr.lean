/- FOR ROWS OF THE LAWS THROUGH THE LAYERS: from the list of laid tables to what the walks ask of the memory; a list of numbers opened and shut. -/
import Derived.Test.YteoekkhgpdhnhaaDoorRows
import Derived.Test.YteoekkhgpdhnhaaDoorZa
import Derived.Test.YteoekkhgpdhnhaaDoorEx
import Derived.ProofKit
import Derived.SizedLaws
import Derived.Lib.SmallJoins
import Derived.Carry
import Derived.Deep.Slices
import Derived.Deep.Fields
import Derived.LaidMore
import Derived.OpenShut
import Derived.Stop.Joined
import Derived.Stop.LaidErr
import Derived.Lib.LaidTab
namespace Go.Proofs.YteoekkhgpdhnhaaDoor
open Go.ChangeShapes Go.WideShapes Go.ChangeAt Go.WideMaps Go.WideElems Go.RowKit Go.Joins
set_option maxRecDepth 100000
def laid4 : List (String × DataW Unit) := [("math/bits.deBruijn32tab", Rows.laid_math_bits_deBruijn32tab), ("math/bits.deBruijn64tab", Rows.laid_math_bits_deBruijn64tab), ("internal/strconv.uint64pow10", Rows.laid_internal_strconv_uint64pow10), ("abacus/times.units", Rows.laid_abacus_times_units)]
theorem own0 : ownKnob Tryd.prog.godebug = none := by kernel_rfl
theorem i64_bounds {n : Int} (h : (Lit.int .i64 n).wf = true) : -9223372036854775808 ≤ n ∧ n ≤ 9223372036854775807 := by
  simp only [Lit.wf, IntKind.min, IntKind.max, IntKind.signed, IntKind.bits, Bool.and_eq_true, decide_eq_true_eq, if_true] at h
  omega
theorem laid0 : laidOutB Tryd.prog = true := by kernel_rfl
theorem c1_int : Tryd.prog.cellsOf 3 = 1 := by kernel_rfl
theorem b8_int : Tryd.prog.bytesOf 3 = 8 := by kernel_rfl
theorem open_nums {H : Type} {enc : TypeId × Value → H} {w : World} {t e : TypeId} {k : IntKind} {b0 : Nat} {v : Value} {d : DataW H} {ps : List MemPlace} (ht : Tryd.prog.underlying t = some (.slice e)) (he : Tryd.prog.underlying e = some (.int k)) (hc : Tryd.prog.cellsOf e = 1)
    (hv : Value.okWide Tryd.prog w .any b0 t v) (h : DataW.Trod enc Tryd.prog w 0 (fun _ => true) true t v d ps) :
    ∃ (A : Option Addr) (xs : List Int) (cap : Nat), v = .slice A xs.length cap ∧ Ext k w A xs ∧ (∀ x ∈ xs, (Lit.int k x).wf = true) ∧ (xs = [] ∨ ∃ el sp, d = .slice el sp ∧ el.length = xs.length) := by
  obtain ⟨A, len, cap, rfl⟩ := okWide_slice ht hv
  obtain ⟨fuel, hf⟩ := h
  rcases open_ints ht he hc hf with ⟨hcs, hx⟩ | ⟨a, len', cap', zs, hcs, _, hl, hm, hz, hx, hcell, hwz⟩
  · simp [Value.cells] at hcs
    obtain ⟨rfl, rfl, rfl⟩ := hcs
    exact ⟨none, [], 0, rfl, fun j x hx => by simp at hx, fun x hx => by simp at hx, .inl rfl⟩
  · simp [Value.cells] at hcs
    obtain ⟨rfl, rfl, rfl⟩ := hcs
    simp only [if_true] at hz
    simp only [Prod.mk.injEq] at hx
    have hlen : (zs.take len).length = len := by rw [List.length_take]; omega
    refine ⟨some a, zs.take len, cap, by rw [hlen], fun j x hx' => ?_, fun x hx' => hwz x (List.mem_of_mem_take hx'), .inr ⟨_, _, hx.1, by simp [lits]⟩⟩
    have hj : j < len := by have := (List.getElem?_eq_some_iff.1 hx').1; omega
    have h0 := hcell 0 (by omega)
    have hb := World.block_lt_of_cell? _ _ h0
    have hjc := hcell j (by omega)
    rw [List.getElem?_take_of_lt hj] at hx'
    have hv' : zs.getD j 0 = x := by simp [List.getD, hx']
    rw [hv'] at hjc
    obtain ⟨b, o, s⟩ := a
    cases s with
    | none => exact ⟨b, o, rfl, by simpa [Addr.add] using hb, by rw [Addr.add_lit] at hjc; exact hjc⟩
    | some s => simp [Addr.add, World.cell?] at h0; split at h0 <;> simp at h0
theorem gUnits : Tryd.prog.globalNamed "abacus/times.units" = some 0 := by kernel_rfl
theorem tUnits : (Tryd.prog.globals[0]?).map (·.type) = some 134 := by kernel_rfl
def uname (k : Nat) : List UInt8 := [[104], [109], [115], [109, 115], [117, 115], [110, 115]].getD k []
def usize (k : Nat) : Int := [3600000000000, 60000000000, 1000000000, 1000000, 1000, 1].getD k 0
theorem unitsData : (Rows.laid_abacus_times_units : DataW Unit) = .agg ((List.range 6).map fun k => .agg [.lit (.string (uname k)), .lit (.int .i64 (usize k))]) := by kernel_rfl
theorem cUnit : Tryd.prog.cellsOf 133 = 2 := by kernel_rfl
theorem cStr : Tryd.prog.cellsOf 9 = 1 := by kernel_rfl
theorem cI64 : Tryd.prog.cellsOf 2 = 1 := by kernel_rfl
/-- A unit that reads as this name and this size: its two cells. -/
theorem unit_cells {W : World} {sp : Nat → Bool} {fuel : Nat} {cs : List Value} {x : DataW Unit × List MemPlace} {a : List UInt8} {b : Int}
    (h : DataW.trod (fun _ => ()) Tryd.prog W 0 sp false fuel 133 cs = some x) (hx : x.1 = .agg [.lit (.string a), .lit (.int .i64 b)]) : cs = [.string ⟨a.toArray⟩, .int .i64 b] := by
  obtain ⟨xs, n, rfl, rfl, hl, hxl, hall⟩ := DataW.trod_struct Tryd.underlying133 h
  rw [cUnit] at hl
  match cs, hl with
  | [c0, c1], _ =>
    match xs, hxl with
    | [x0, x1], _ =>
      have h0 : DataW.trod (fun _ => ()) Tryd.prog W 0 sp false n 9 [c0] = some x0 := by
        have e := hall 0 ⟨"name", 9, 0, false, "", "abacus/times", 0⟩ rfl
        have e' : DataW.trod (fun _ => ()) Tryd.prog W 0 sp false n 9 ([c0, c1].take (Tryd.prog.cellsOf 9)) = some x0 := e
        rw [cStr] at e'
        exact e'
      have h1 : DataW.trod (fun _ => ()) Tryd.prog W 0 sp false n 2 [c1] = some x1 := by
        have e := hall 1 ⟨"size", 2, 1, false, "", "abacus/times", 16⟩ rfl
        have e' : DataW.trod (fun _ => ()) Tryd.prog W 0 sp false n 2 ([c1].take (Tryd.prog.cellsOf 2)) = some x1 := e
        rw [cI64] at e'
        exact e'
      simp only [List.map_cons, List.map_nil, DataW.agg.injEq, List.cons.injEq, and_true] at hx
      obtain ⟨s, e1, e2, _⟩ := DataW.trod_string Tryd.underlying9 h0
      obtain ⟨k, g1, g2, _⟩ := DataW.trod_int Tryd.underlying2 h1
      obtain ⟨hx0, hx1⟩ := hx
      rw [e2] at hx0
      rw [g2] at hx1
      simp only [DataW.lit.injEq, Lit.string.injEq, Lit.int.injEq, true_and] at hx0 hx1
      subst hx0
      subst hx1
      obtain rfl := (List.cons.inj e1).1
      obtain rfl := (List.cons.inj g1).1
      rfl
theorem units_of_laid {W : World} (h0 : laidMetH Tryd.prog laid4 W) : UnitsIn W := by
  rw [MakeChecks.laidMetH_plain _ _ _ (by kernel_rfl)] at h0
  obtain ⟨ps, ⟨g, t, cs, f, p, q, hg, ht, hv, hd, _, _⟩, _, _⟩ := h0.tail.tail.tail
  obtain rfl := Option.some.inj (gUnits.symm.trans hg)
  obtain rfl := Option.some.inj (tUnits.symm.trans ht)
  have hsz : 1 ≤ W.heap.size := by
    have hv' := hv
    simp only [World.var?, gUnits, Option.bind_some] at hv'
    by_cases hs : 0 < W.heap.size
    · exact hs
    · rw [Array.getElem?_eq_none (by omega)] at hv'
      cases hv'
  obtain ⟨xs, m, rfl, hx, hl, hn, hel⟩ := DataW.trod_array Tryd.underlying134 hd
  rw [unitsData] at hx
  simp only [Prod.mk.injEq, DataW.agg.injEq] at hx
  have key : ∀ k, k < 6 → W.cell? ⟨0, 2 * k, none⟩ = some (.string ⟨(uname k).toArray⟩) ∧ W.cell? ⟨0, 2 * k + 1, none⟩ = some (.int .i64 (usize k)) := by
    intro k hk
    have hk' := hel k hk
    rw [cUnit] at hk'
    obtain ⟨x, hxk⟩ : ∃ x, xs[k]? = some x := ⟨xs[k]'(by omega), List.getElem?_eq_getElem (by omega)⟩
    rw [hxk] at hk'
    have hd0 : (xs.map (·.1))[k]? = some x.1 := by rw [List.getElem?_map, hxk]; rfl
    rw [← hx.1] at hd0
    have hd1 : x.1 = .agg [.lit (.string (uname k)), .lit (.int .i64 (usize k))] := by
      rw [List.getElem?_map, List.getElem?_range hk] at hd0
      exact (Option.some.inj hd0).symm
    have hc := unit_cells hk' hd1
    have a0 := World.var?_cell hg hv (2 * k)
    have a1 := World.var?_cell hg hv (2 * k + 1)
    have b0 : cs.toList[k * 2]? = some (.string ⟨(uname k).toArray⟩) := by
      have := congrArg (·[0]?) hc
      simpa [List.getElem?_take, List.getElem?_drop] using this
    have b1 : cs.toList[k * 2 + 1]? = some (.int .i64 (usize k)) := by
      have := congrArg (·[1]?) hc
      simpa [List.getElem?_take, List.getElem?_drop] using this
    rw [Array.getElem?_toList] at b0 b1
    rw [Nat.mul_comm] at b0 b1
    exact ⟨a0.trans b0, a1.trans b1⟩
  exact ⟨hsz, (key 0 (by omega)).1, (key 0 (by omega)).2, (key 1 (by omega)).1, (key 1 (by omega)).2, (key 2 (by omega)).1, (key 2 (by omega)).2, (key 3 (by omega)).1, (key 3 (by omega)).2, (key 4 (by omega)).1, (key 4 (by omega)).2, (key 5 (by omega)).1, (key 5 (by omega)).2⟩
/-- The door's own heap meets the list: three closed facts. -/
theorem door_met (os : Os) (args : Array Value) : laidMetH Tryd.prog laid4 ((World.doorLaid Tryd.prog 400 os).forCall (fun _ _ => 0) ⟨#[], args, []⟩).memory :=
  laidMetH_of_parts3 (fuel := 8) (laidMet_of_run' 8 (by kernel_rfl) (by kernel_rfl)) (by kernel_rfl) (by kernel_rfl)
end Go.Proofs.YteoekkhgpdhnhaaDoor
