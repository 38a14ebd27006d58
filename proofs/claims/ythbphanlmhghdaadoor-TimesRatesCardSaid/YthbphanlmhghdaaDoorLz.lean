/- FROM A ROW's LIST OF TABLES TO WHAT THE WALKS ASK OF THE WORLD ('Env'), and the start that meets the list. -/
import Derived.Test.YthbphanlmhghdaaDoorWm
import Derived.Test.YthbphanlmhghdaaDoorRows
import Derived.ProofKit
import Derived.LaidMore
import Derived.OpenShut
import Derived.Stop.Joined
import Derived.Stop.LaidErr
namespace Go.Proofs.YthbphanlmhghdaaDoor
open Go.ChangeShapes Go.WideShapes Go.ChangeAt Go.WideMaps Go.WideElems Go.RowKit

def laid4 : List (String × DataW Unit) := [("math/bits.deBruijn32tab", Rows.laid_math_bits_deBruijn32tab), ("math/bits.deBruijn64tab", Rows.laid_math_bits_deBruijn64tab), ("internal/strconv.uint64pow10", Rows.laid_internal_strconv_uint64pow10), ("abacus/times.units", Rows.laid_abacus_times_units)]

theorem own0 : ownKnob Tryd.prog.godebug = none := by kernel_rfl
theorem gTab64 : Tryd.prog.globalNamed "math/bits.deBruijn64tab" = some 5 := by kernel_rfl
theorem gUnits : Tryd.prog.globalNamed "abacus/times.units" = some 0 := by kernel_rfl
theorem tPow : (Tryd.prog.globals[3]?).map (·.type) = some 109 := by kernel_rfl
theorem tUnits : (Tryd.prog.globals[0]?).map (·.type) = some 58 := by kernel_rfl
theorem powData : (Rows.laid_internal_strconv_uint64pow10 : DataW Unit) = Lib.tabData .u64 Lib.pow10Tab := by kernel_rfl
theorem unitsData : (Rows.laid_abacus_times_units : DataW Unit) = .agg ((List.range 6).map fun k => .agg [.lit (.string (TM.uname k)), .lit (.int .i64 (TM.usize k))]) := by kernel_rfl
theorem c57 : Tryd.prog.cellsOf 57 = 2 := by kernel_rfl
theorem c9 : Tryd.prog.cellsOf 9 = 1 := by kernel_rfl
theorem c2 : Tryd.prog.cellsOf 2 = 1 := by kernel_rfl

set_option maxRecDepth 100000 in
/-- A unit that reads as this name and this size: its two cells. -/
theorem unit_cells {W : World} {sp : Nat → Bool} {fuel : Nat} {cs : List Value} {x : DataW Unit × List MemPlace} {a : List UInt8} {b : Int}
    (h : DataW.trod (fun _ => ()) Tryd.prog W 0 sp false fuel 57 cs = some x) (hx : x.1 = .agg [.lit (.string a), .lit (.int .i64 b)]) : cs = [.string ⟨a.toArray⟩, .int .i64 b] := by
  obtain ⟨xs, n, rfl, rfl, hl, hxl, hall⟩ := DataW.trod_struct Tryd.underlying57 h
  rw [c57] at hl
  match cs, hl with
  | [c0, c1], _ =>
    match xs, hxl with
    | [x0, x1], _ =>
      have h0 : DataW.trod (fun _ => ()) Tryd.prog W 0 sp false n 9 [c0] = some x0 := by
        have e := hall 0 ⟨"name", 9, 0, false, "", "abacus/times", 0⟩ rfl
        have e' : DataW.trod (fun _ => ()) Tryd.prog W 0 sp false n 9 ([c0, c1].take (Tryd.prog.cellsOf 9)) = some x0 := e
        rw [c9] at e'
        exact e'
      have h1 : DataW.trod (fun _ => ()) Tryd.prog W 0 sp false n 2 [c1] = some x1 := by
        have e := hall 1 ⟨"size", 2, 1, false, "", "abacus/times", 16⟩ rfl
        have e' : DataW.trod (fun _ => ()) Tryd.prog W 0 sp false n 2 ([c1].take (Tryd.prog.cellsOf 2)) = some x1 := e
        rw [c2] at e'
        exact e'
      simp only [List.map_cons, List.map_nil, DataW.agg.injEq, List.cons.injEq, and_true] at hx
      obtain ⟨s, e1, e2, _⟩ := DataW.trod_string Tryd.underlying9 h0
      obtain ⟨k, g1, g2, _⟩ := DataW.trod_int Tryd.underlying2 h1
      obtain ⟨hx0, hx1⟩ := hx
      rw [e2] at hx0
      rw [g2] at hx1
      simp only [DataW.lit.injEq, Lit.string.injEq, Lit.int.injEq, true_and] at hx0 hx1
      subst hx0
      subst hx1
      obtain rfl := (List.cons.inj e1).1
      obtain rfl := (List.cons.inj g1).1
      rfl

theorem env_of_laid {W : World} (h0 : laidMetH Tryd.prog laid4 W) : Env W := by
  rw [MakeChecks.laidMetH_plain _ _ _ (by kernel_rfl)] at h0
  have hp := h0.tail.tail
  rw [powData] at hp
  refine ⟨?_, ?_, Lib.tabIs_of_head Tryd.global3 tPow Tryd.underlying109 Tryd.underlying72 (by kernel_rfl) (by kernel_rfl) hp⟩
  · obtain ⟨ps, ⟨g, t, cs, f, p, q, hg, ht, hv, hd, _, _⟩, _, _⟩ := h0.tail
    simp only [World.var?, gTab64, Option.bind_some] at hv
    by_cases hs : 5 < W.heap.size
    · omega
    · rw [Array.getElem?_eq_none (by omega)] at hv
      cases hv
  · obtain ⟨ps, ⟨g, t, cs, f, p, q, hg, ht, hv, hd, _, _⟩, _, _⟩ := h0.tail.tail.tail
    obtain rfl := Option.some.inj (gUnits.symm.trans hg)
    obtain rfl := Option.some.inj (tUnits.symm.trans ht)
    obtain ⟨xs, m, rfl, hx, hl, hn, hel⟩ := DataW.trod_array Tryd.underlying58 hd
    rw [unitsData] at hx
    simp only [Prod.mk.injEq, DataW.agg.injEq] at hx
    intro k hk
    have hk' := hel k hk
    rw [c57] at hk'
    obtain ⟨x, hxk⟩ : ∃ x, xs[k]? = some x := ⟨xs[k]'(by omega), List.getElem?_eq_getElem (by omega)⟩
    rw [hxk] at hk'
    have hd0 : (xs.map (·.1))[k]? = some x.1 := by rw [List.getElem?_map, hxk]; rfl
    rw [← hx.1] at hd0
    have hd1 : x.1 = .agg [.lit (.string (TM.uname k)), .lit (.int .i64 (TM.usize k))] := by
      rw [List.getElem?_map, List.getElem?_range hk] at hd0
      exact (Option.some.inj hd0).symm
    have hc := unit_cells hk' hd1
    have a0 := World.var?_cell hg hv (2 * k)
    have a1 := World.var?_cell hg hv (2 * k + 1)
    have b0 : cs.toList[k * 2]? = some (.string ⟨(TM.uname k).toArray⟩) := by
      have := congrArg (·[0]?) hc
      simpa [List.getElem?_take, List.getElem?_drop] using this
    have b1 : cs.toList[k * 2 + 1]? = some (.int .i64 (TM.usize k)) := by
      have := congrArg (·[1]?) hc
      simpa [List.getElem?_take, List.getElem?_drop] using this
    rw [Array.getElem?_toList] at b0 b1
    rw [Nat.mul_comm] at b0 b1
    exact ⟨a0.trans b0, a1.trans b1⟩

/-- The door's own heap meets the list: three closed facts. -/
theorem door_met (os : Os) (args : Array Value) : laidMetH Tryd.prog laid4 ((World.doorLaid Tryd.prog 400 os).forCall (fun _ _ => 0) ⟨#[], args, []⟩).memory :=
  laidMetH_of_parts3 (fuel := 8) (laidMet_of_run' 8 (by kernel_rfl) (by kernel_rfl)) (by kernel_rfl) (by kernel_rfl)
end Go.Proofs.YthbphanlmhghdaaDoor
