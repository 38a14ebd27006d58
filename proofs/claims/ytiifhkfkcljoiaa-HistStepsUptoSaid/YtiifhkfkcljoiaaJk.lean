/- THE WALKS of package hist: the document's act on a list of cells. -/
import Derived.Test.YtiifhkfkcljoiaaJz
import Derived.Deep.RegionLaw
import Derived.Deep.AppendLies
import Derived.Laws.MakeOwn
namespace Go.Proofs.Ytiifhkfkcljoiaa
open Go Go.RowKit
set_option maxRecDepth 100000
set_option maxHeartbeats 3200000
/-- the document's cells behind an action, and what it did -/
def CellsTo (w : World) (A : Option Addr) (ws' : List Int) (d : Array Value) (e : Ending) (w' : World) : Prop := ∃ A' n', e = .returned (.tuple #[.slice A' ws'.length n', .agg d]) ∧ Ext .u64 w' A' ws' ∧ (A' = A ∨ ∀ a, A' = some a → w.heap.size ≤ a.block ∧ a.block < w'.heap.size) ∧ Below w.heap.size w w'
theorem own_free9 {w : World} {base n c g size : Nat} {e : TypeId} {xs : List Value} (h : w.ownsRow base e size (.slice (some ⟨g, 0, none⟩) n c) n xs) (i : Nat) : w.frozen? ⟨g, i, none⟩ = false := by
  rcases h.2 with ⟨hv, _⟩ | ⟨g', _, cur, hv, _, hh, _⟩
  · cases hv
  · cases hv; simp [World.frozen?, hh]
theorem set_ext {w3 wf : World} {base g c i : Nat} {ws : List Int} {S : List Nat} (ho : w3.ownsRow base 38 1 (.slice (some ⟨g, 0, none⟩) ws.length c) ws.length (u64s ws)) (put : Int) (hP : Part S (w3.setCell ⟨g, i, none⟩ (.int .u64 put)) wf) (hg : g ∉ S) : Ext .u64 wf (some ⟨g, 0, none⟩) (ws.set i put) := by
  have h := (ho.stored i (.int .u64 put)).1
  rw [u64s_set] at h
  have h2 := own_part h hP (fun q hq => by cases hq; exact hg)
  have e : ws.length = (ws.set i put).length := by simp
  rw [e] at h2
  exact own_ext h2
section
variable {w : World} {A : Option Addr} {n : Nat} {ws : List Int} {i : Nat} {saw old x : Int}
theorem dact_load (hA : Ext .u64 w A ws) (_hl : ws.length ≤ 65536) (hx : ws[i]? = some saw) : Calls Try.prog 70 #[.slice A ws.length n, .int .u8 1, .int .i64 (i : Int), .int .u64 old, .int .u64 x] w (CellsTo w A ws #[.int .u8 1, .int .i64 (i : Int), .int .u64 saw, .int .u64 saw, .bool true]) := by
  have HA := Lib.hid hA
  have hil := lt_of_get hx
  have hil2 : (i : Int) < (ws.length : Int) := by omega
  obtain ⟨b, o, rfl, hbl, hc⟩ := hA i saw hx
  clear hA hx
  go_enter Try.func70, Try.ntmps70
  go_upto_region 1 with fail
  go_cut [12] (fun s12 wx => s12 = .pointer (some ⟨w.heap.size + 1, 0, none⟩) ∧ ∃ m, wx = ((w.alloc (.cells #[.int .u8 0, .int .i64 0, .int .u64 0, .int .u64 0, .bool false] 50)).alloc (.cells #[.int .u8 1, .int .i64 (i : Int), .int .u64 saw, .int .u64 saw, .bool true] 50)).drewN m)
  case first =>
    go_region
    all_goals
      go_wp2_with fail
      go_meet
      exact ⟨rfl, 1, rfl⟩
  case rest =>
  obtain ⟨rfl, mm, rfl⟩ := hcut

  go_wp2
  go_region
  all_goals
    go_wp2
    refine bodyPost_ret (v := .tuple #[.slice (some ⟨b, o, none⟩) ws.length n, .agg #[.int .u8 1, .int .i64 (i : Int), .int .u64 saw, .int .u64 saw, .bool true]]) (by simp [results, Try.results70, go_sem]) rfl ?_
    suffices hb : Below w.heap.size w _ from ⟨_, _, rfl, HA.out.on hb, .inl rfl, hb⟩
    repeat (first | (with_reducible exact Below.refl _ _) | (with_reducible refine Below.drew ?_) | (with_reducible refine Below.draws ?_ _) | (with_reducible refine Below.setCell ?_ (by dsimp only; omega) _) | refine Below.alloc ?_ (by simp; try omega) _)
theorem dact_add_same (hA : Ext .u64 w A ws) (_hl : ws.length ≤ 65536) (hx : ws[i]? = some saw) (hs : IntKind.u64.wrap (saw + x) = saw) : Calls Try.prog 70 #[.slice A ws.length n, .int .u8 3, .int .i64 (i : Int), .int .u64 old, .int .u64 x] w (CellsTo w A ws #[.int .u8 3, .int .i64 (i : Int), .int .u64 saw, .int .u64 saw, .bool true]) := by
  have HA := Lib.hid hA
  have hil := lt_of_get hx
  have hil2 : (i : Int) < (ws.length : Int) := by omega
  obtain ⟨b, o, rfl, hbl, hc⟩ := hA i saw hx
  clear hA hx
  go_enter Try.func70, Try.ntmps70
  go_upto_region 1 with fail
  go_cut [12] (fun s12 wx => s12 = .pointer (some ⟨w.heap.size + 1, 0, none⟩) ∧ ∃ m, wx = ((w.alloc (.cells #[.int .u8 0, .int .i64 0, .int .u64 0, .int .u64 0, .bool false] 50)).alloc (.cells #[.int .u8 3, .int .i64 (i : Int), .int .u64 saw, .int .u64 saw, .bool true] 50)).drewN m)
  case first =>
    go_region
    all_goals
      go_wp2_with fail
      go_meet
      exact ⟨rfl, 1, rfl⟩
  case rest =>
  obtain ⟨rfl, mm, rfl⟩ := hcut

  go_wp2
  go_region
  all_goals
    go_wp2
    refine bodyPost_ret (v := .tuple #[.slice (some ⟨b, o, none⟩) ws.length n, .agg #[.int .u8 3, .int .i64 (i : Int), .int .u64 saw, .int .u64 saw, .bool true]]) (by simp [results, Try.results70, go_sem]) rfl ?_
    suffices hb : Below w.heap.size w _ from ⟨_, _, rfl, HA.out.on hb, .inl rfl, hb⟩
    repeat (first | (with_reducible exact Below.refl _ _) | (with_reducible refine Below.drew ?_) | (with_reducible refine Below.draws ?_ _) | (with_reducible refine Below.setCell ?_ (by dsimp only; omega) _) | refine Below.alloc ?_ (by simp; try omega) _)
theorem dact_cas_miss (hA : Ext .u64 w A ws) (_hl : ws.length ≤ 65536) (hx : ws[i]? = some saw) (hs : saw ≠ old) : Calls Try.prog 70 #[.slice A ws.length n, .int .u8 5, .int .i64 (i : Int), .int .u64 old, .int .u64 x] w (CellsTo w A ws #[.int .u8 5, .int .i64 (i : Int), .int .u64 saw, .int .u64 saw, .bool false]) := by
  have HA := Lib.hid hA
  have hil := lt_of_get hx
  have hil2 : (i : Int) < (ws.length : Int) := by omega
  obtain ⟨b, o, rfl, hbl, hc⟩ := hA i saw hx
  have hs1 : (saw == old) = false := by simpa using hs
  clear hs
  clear hA hx
  go_enter Try.func70, Try.ntmps70
  go_upto_region 1 with fail
  go_cut [12] (fun s12 wx => s12 = .pointer (some ⟨w.heap.size + 1, 0, none⟩) ∧ ∃ m, wx = ((w.alloc (.cells #[.int .u8 0, .int .i64 0, .int .u64 0, .int .u64 0, .bool false] 50)).alloc (.cells #[.int .u8 5, .int .i64 (i : Int), .int .u64 saw, .int .u64 saw, .bool true] 50)).drewN m)
  case first =>
    go_region
    all_goals
      go_wp2_with fail
      go_meet
      exact ⟨rfl, 1, rfl⟩
  case rest =>
  obtain ⟨rfl, mm, rfl⟩ := hcut

  go_wp2
  go_region
  all_goals
    go_wp2
    refine bodyPost_ret (v := .tuple #[.slice (some ⟨b, o, none⟩) ws.length n, .agg #[.int .u8 5, .int .i64 (i : Int), .int .u64 saw, .int .u64 saw, .bool false]]) (by simp [results, Try.results70, go_sem]) rfl ?_
    suffices hb : Below w.heap.size w _ from ⟨_, _, rfl, HA.out.on hb, .inl rfl, hb⟩
    repeat (first | (with_reducible exact Below.refl _ _) | (with_reducible refine Below.drew ?_) | (with_reducible refine Below.draws ?_ _) | (with_reducible refine Below.setCell ?_ (by dsimp only; omega) _) | refine Below.alloc ?_ (by simp; try omega) _)
theorem dact_cas_same (hA : Ext .u64 w A ws) (_hl : ws.length ≤ 65536) (hx : ws[i]? = some saw) : Calls Try.prog 70 #[.slice A ws.length n, .int .u8 5, .int .i64 (i : Int), .int .u64 saw, .int .u64 saw] w (CellsTo w A ws #[.int .u8 5, .int .i64 (i : Int), .int .u64 saw, .int .u64 saw, .bool true]) := by
  have HA := Lib.hid hA
  have hil := lt_of_get hx
  have hil2 : (i : Int) < (ws.length : Int) := by omega
  obtain ⟨b, o, rfl, hbl, hc⟩ := hA i saw hx
  clear hA hx
  go_enter Try.func70, Try.ntmps70
  go_upto_region 1 with fail
  go_cut [12] (fun s12 wx => s12 = .pointer (some ⟨w.heap.size + 1, 0, none⟩) ∧ ∃ m, wx = ((w.alloc (.cells #[.int .u8 0, .int .i64 0, .int .u64 0, .int .u64 0, .bool false] 50)).alloc (.cells #[.int .u8 5, .int .i64 (i : Int), .int .u64 saw, .int .u64 saw, .bool true] 50)).drewN m)
  case first =>
    go_region
    all_goals
      go_wp2_with fail
      go_meet
      exact ⟨rfl, 1, rfl⟩
  case rest =>
  obtain ⟨rfl, mm, rfl⟩ := hcut

  go_wp2
  go_region
  all_goals
    go_wp2
    refine bodyPost_ret (v := .tuple #[.slice (some ⟨b, o, none⟩) ws.length n, .agg #[.int .u8 5, .int .i64 (i : Int), .int .u64 saw, .int .u64 saw, .bool true]]) (by simp [results, Try.results70, go_sem]) rfl ?_
    suffices hb : Below w.heap.size w _ from ⟨_, _, rfl, HA.out.on hb, .inl rfl, hb⟩
    repeat (first | (with_reducible exact Below.refl _ _) | (with_reducible refine Below.drew ?_) | (with_reducible refine Below.draws ?_ _) | (with_reducible refine Below.setCell ?_ (by dsimp only; omega) _) | refine Below.alloc ?_ (by simp; try omega) _)
theorem dact_add_set (hA : Ext .u64 w A ws) (hl : ws.length ≤ 65536) (hx : ws[i]? = some saw) (hs : IntKind.u64.wrap (saw + x) ≠ saw) : Calls Try.prog 70 #[.slice A ws.length n, .int .u8 3, .int .i64 (i : Int), .int .u64 old, .int .u64 x] w (CellsTo w A (ws.set i (IntKind.u64.wrap (saw + x))) #[.int .u8 3, .int .i64 (i : Int), .int .u64 saw, .int .u64 (IntKind.u64.wrap (saw + x)), .bool true]) := by
  have HA := Lib.hid hA
  have HL := Lib.hid hl
  have HX := Lib.hid hx
  have hil := lt_of_get hx
  have hil2 : (i : Int) < (ws.length : Int) := by omega
  obtain ⟨b, o, rfl, hbl, hc⟩ := hA i saw hx
  have hs1 : (IntKind.u64.wrap (saw + x) != saw) = true := by simpa using hs
  clear hs
  clear hA hx
  go_enter Try.func70, Try.ntmps70
  go_upto_region 1 with fail
  go_cut [12] (fun s12 wx => s12 = .pointer (some ⟨w.heap.size + 1, 0, none⟩) ∧ ∃ m, wx = ((w.alloc (.cells #[.int .u8 0, .int .i64 0, .int .u64 0, .int .u64 0, .bool false] 50)).alloc (.cells #[.int .u8 3, .int .i64 (i : Int), .int .u64 saw, .int .u64 saw, .bool true] 50)).drewN m)
  case first =>
    go_region
    all_goals
      go_wp2_with fail
      go_meet
      exact ⟨rfl, 1, rfl⟩
  case rest =>
  obtain ⟨rfl, mm, rfl⟩ := hcut

  have HBB : Hid (Below w.heap.size w ((((w.alloc (.cells #[.int .u8 0, .int .i64 0, .int .u64 0, .int .u64 0, .bool false] 50)).alloc (.cells #[.int .u8 3, .int .i64 (i : Int), .int .u64 saw, .int .u64 saw, .bool true] 50)).drewN mm).setCell ⟨w.heap.size + 1, 3, none⟩ (.int .u64 (IntKind.u64.wrap (saw + x))))) := Lib.hid (Below.setCell (Below.draws (((Below.refl w.heap.size w).alloc (Nat.le_refl _) _).alloc (by simp) _) mm) (by dsimp only; omega) (.int .u64 (IntKind.u64.wrap (saw + x))))
  have HRD : Hid (Row ((((w.alloc (.cells #[.int .u8 0, .int .i64 0, .int .u64 0, .int .u64 0, .bool false] 50)).alloc (.cells #[.int .u8 3, .int .i64 (i : Int), .int .u64 saw, .int .u64 saw, .bool true] 50)).drewN mm).setCell ⟨w.heap.size + 1, 3, none⟩ (.int .u64 (IntKind.u64.wrap (saw + x)))) (w.heap.size + 1) 50 [.int .u8 3, .int .i64 (i : Int), .int .u64 saw, .int .u64 (IntKind.u64.wrap (saw + x)), .bool true]) := Lib.hid (Row.of_eq (Row.set (Row.drewN (Row.at_ (w := w.alloc _) (n := w.heap.size + 1) (by simp)) mm) 3 (.int .u64 (IntKind.u64.wrap (saw + x)))) rfl)
  have HRA : Hid (Row ((((w.alloc (.cells #[.int .u8 0, .int .i64 0, .int .u64 0, .int .u64 0, .bool false] 50)).alloc (.cells #[.int .u8 3, .int .i64 (i : Int), .int .u64 saw, .int .u64 saw, .bool true] 50)).drewN mm).setCell ⟨w.heap.size + 1, 3, none⟩ (.int .u64 (IntKind.u64.wrap (saw + x)))) w.heap.size 50 [.int .u8 0, .int .i64 0, .int .u64 0, .int .u64 0, .bool false]) := Lib.hid (Row.far (Row.drewN ((Row.new w _ _).alloc _) _) (by dsimp only; omega) (.int .u64 (IntKind.u64.wrap (saw + x))))
  go_wp2_with (go_at_call 45; (with_reducible refine (copy_any (xs := ws) (HA.out.on HBB.out) (by have := HL.out; omega)).mono ?_); rintro e w3 ⟨A2, c2, rfl, ho, hb⟩; obtain ⟨g2, c3, hv2, hg3, hg4⟩ := own_some ho (by omega); cases hv2; have oc := own_cell (j := i) ho (by rw [u64s_get, HX.out]; rfl); have of := own_free9 ho i; have HO3 := Lib.hid ho; have HG4 := Lib.hid hg4; have HB3 := Lib.hid (HBB.out.trans (hb.mono HBB.out.size)); have HD3 := Lib.hid (HRD.out.below hb HRD.out.lt); have HA3 := Lib.hid (HRA.out.below hb HRA.out.lt); obtain ⟨d0, d1, d2, d3, d4⟩ := HD3.out.five; have dl := HD3.out.lt; obtain ⟨a0, a1, a2, a3, a4⟩ := HA3.out.five; have al := HA3.out.lt; have af := HA3.out.free; have n1 : ¬ g2 = w.heap.size := own_off ho HA3.out (by decide) g2 rfl; have n2 : ¬ g2 = w.heap.size + 1 := own_off ho HD3.out (by decide) g2 rfl; clear ho hb)
  go_region
  all_goals
    go_wp2
    refine bodyPost_ret (v := .tuple #[.slice (some ⟨g2, 0, none⟩) ws.length c2, .agg #[.int .u8 3, .int .i64 (i : Int), .int .u64 saw, .int .u64 (IntKind.u64.wrap (saw + x)), .bool true]]) (by simp [results, Try.results70, go_sem, a0, a1, a2, a3, a4]) rfl ?_
    suffices hP : Part [w.heap.size] (w3.setCell ⟨g2, i, none⟩ (.int .u64 (IntKind.u64.wrap (saw + x)))) _ from ⟨_, c2, by rw [List.length_set], set_ext HO3.out _ hP (by simpa using n1), .inr (fun a ha => by cases ha; exact ⟨by have := own_from HO3.out g2 rfl; have := HBB.out.size; dsimp only; omega, Nat.lt_of_lt_of_le HG4.out (by simp)⟩), (HB3.out.setCell (by have := own_from HO3.out g2 rfl; have := HBB.out.size; dsimp only; omega) _).trans (hP.below (by have := HB3.out.size; simpa using this) (by simp))⟩
    repeat (first | (with_reducible exact Part.refl _ _) | (with_reducible refine Part.drew ?_) | refine Part.set ?_ (by simp) _)
theorem dact_cas_set (hA : Ext .u64 w A ws) (hl : ws.length ≤ 65536) (hx : ws[i]? = some saw) (hs : x ≠ saw) : Calls Try.prog 70 #[.slice A ws.length n, .int .u8 5, .int .i64 (i : Int), .int .u64 saw, .int .u64 x] w (CellsTo w A (ws.set i x) #[.int .u8 5, .int .i64 (i : Int), .int .u64 saw, .int .u64 x, .bool true]) := by
  have HA := Lib.hid hA
  have HL := Lib.hid hl
  have HX := Lib.hid hx
  have hil := lt_of_get hx
  have hil2 : (i : Int) < (ws.length : Int) := by omega
  obtain ⟨b, o, rfl, hbl, hc⟩ := hA i saw hx
  have hs1 : (x != saw) = true := by simpa using hs
  clear hs
  clear hA hx
  go_enter Try.func70, Try.ntmps70
  go_upto_region 1 with fail
  go_cut [12] (fun s12 wx => s12 = .pointer (some ⟨w.heap.size + 1, 0, none⟩) ∧ ∃ m, wx = ((w.alloc (.cells #[.int .u8 0, .int .i64 0, .int .u64 0, .int .u64 0, .bool false] 50)).alloc (.cells #[.int .u8 5, .int .i64 (i : Int), .int .u64 saw, .int .u64 saw, .bool true] 50)).drewN m)
  case first =>
    go_region
    all_goals
      go_wp2_with fail
      go_meet
      exact ⟨rfl, 1, rfl⟩
  case rest =>
  obtain ⟨rfl, mm, rfl⟩ := hcut

  have HBB : Hid (Below w.heap.size w (((((w.alloc (.cells #[.int .u8 0, .int .i64 0, .int .u64 0, .int .u64 0, .bool false] 50)).alloc (.cells #[.int .u8 5, .int .i64 (i : Int), .int .u64 saw, .int .u64 saw, .bool true] 50)).drewN mm).setCell ⟨w.heap.size + 1, 4, none⟩ (.bool true)).setCell ⟨w.heap.size + 1, 3, none⟩ (.int .u64 x))) := Lib.hid (Below.setCell (Below.setCell (Below.draws (((Below.refl w.heap.size w).alloc (Nat.le_refl _) _).alloc (by simp) _) mm) (by dsimp only; omega) (.bool true)) (by dsimp only; omega) (.int .u64 x))
  have HRD : Hid (Row (((((w.alloc (.cells #[.int .u8 0, .int .i64 0, .int .u64 0, .int .u64 0, .bool false] 50)).alloc (.cells #[.int .u8 5, .int .i64 (i : Int), .int .u64 saw, .int .u64 saw, .bool true] 50)).drewN mm).setCell ⟨w.heap.size + 1, 4, none⟩ (.bool true)).setCell ⟨w.heap.size + 1, 3, none⟩ (.int .u64 x)) (w.heap.size + 1) 50 [.int .u8 5, .int .i64 (i : Int), .int .u64 saw, .int .u64 x, .bool true]) := Lib.hid (Row.of_eq (Row.set (Row.of_eq (Row.set (Row.drewN (Row.at_ (w := w.alloc _) (n := w.heap.size + 1) (by simp)) mm) 4 (.bool true)) rfl) 3 (.int .u64 x)) rfl)
  have HRA : Hid (Row (((((w.alloc (.cells #[.int .u8 0, .int .i64 0, .int .u64 0, .int .u64 0, .bool false] 50)).alloc (.cells #[.int .u8 5, .int .i64 (i : Int), .int .u64 saw, .int .u64 saw, .bool true] 50)).drewN mm).setCell ⟨w.heap.size + 1, 4, none⟩ (.bool true)).setCell ⟨w.heap.size + 1, 3, none⟩ (.int .u64 x)) w.heap.size 50 [.int .u8 0, .int .i64 0, .int .u64 0, .int .u64 0, .bool false]) := Lib.hid (Row.far (Row.far (Row.drewN ((Row.new w _ _).alloc _) _) (by dsimp only; omega) (.bool true)) (by dsimp only; omega) (.int .u64 x))
  go_wp2_with (go_at_call 45; (with_reducible refine (copy_any (xs := ws) (HA.out.on HBB.out) (by have := HL.out; omega)).mono ?_); rintro e w3 ⟨A2, c2, rfl, ho, hb⟩; obtain ⟨g2, c3, hv2, hg3, hg4⟩ := own_some ho (by omega); cases hv2; have oc := own_cell (j := i) ho (by rw [u64s_get, HX.out]; rfl); have of := own_free9 ho i; have HO3 := Lib.hid ho; have HG4 := Lib.hid hg4; have HB3 := Lib.hid (HBB.out.trans (hb.mono HBB.out.size)); have HD3 := Lib.hid (HRD.out.below hb HRD.out.lt); have HA3 := Lib.hid (HRA.out.below hb HRA.out.lt); obtain ⟨d0, d1, d2, d3, d4⟩ := HD3.out.five; have dl := HD3.out.lt; obtain ⟨a0, a1, a2, a3, a4⟩ := HA3.out.five; have al := HA3.out.lt; have af := HA3.out.free; have n1 : ¬ g2 = w.heap.size := own_off ho HA3.out (by decide) g2 rfl; have n2 : ¬ g2 = w.heap.size + 1 := own_off ho HD3.out (by decide) g2 rfl; clear ho hb)
  go_region
  all_goals
    go_wp2
    refine bodyPost_ret (v := .tuple #[.slice (some ⟨g2, 0, none⟩) ws.length c2, .agg #[.int .u8 5, .int .i64 (i : Int), .int .u64 saw, .int .u64 x, .bool true]]) (by simp [results, Try.results70, go_sem, a0, a1, a2, a3, a4]) rfl ?_
    suffices hP : Part [w.heap.size] (w3.setCell ⟨g2, i, none⟩ (.int .u64 x)) _ from ⟨_, c2, by rw [List.length_set], set_ext HO3.out _ hP (by simpa using n1), .inr (fun a ha => by cases ha; exact ⟨by have := own_from HO3.out g2 rfl; have := HBB.out.size; dsimp only; omega, Nat.lt_of_lt_of_le HG4.out (by simp)⟩), (HB3.out.setCell (by have := own_from HO3.out g2 rfl; have := HBB.out.size; dsimp only; omega) _).trans (hP.below (by have := HB3.out.size; simpa using this) (by simp))⟩
    repeat (first | (with_reducible exact Part.refl _ _) | (with_reducible refine Part.drew ?_) | refine Part.set ?_ (by simp) _)
end
end Go.Proofs.Ytiifhkfkcljoiaa
