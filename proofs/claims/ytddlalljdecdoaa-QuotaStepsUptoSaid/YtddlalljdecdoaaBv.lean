/- THE DOCUMENT's OWN actions on a list of cells: act. -/
import Derived.Test.YtddlalljdecdoaaBk
namespace Go.Proofs.Ytddlalljdecdoaa
open Go Go.RowKit
set_option maxRecDepth 100000
set_option maxHeartbeats 1600000
/-- what an action of the document leaves: a new list of cells; what it did -/
def RActed (w : World) (ws : List Int) (x0 x1 x2 x3 : Int) (x4 : Bool) (e : Ending) (w' : World) : Prop :=
  ∃ g c, e = .returned (.tuple #[.slice (some ⟨g, 0, none⟩) ws.length c, .agg #[.int .u8 x0, .int .i64 x1, .int .u64 x2, .int .u64 x3, .bool x4]]) ∧ w.heap.size ≤ g ∧ g < w'.heap.size ∧ Lies w' g ws ∧ Below w.heap.size w w'
theorem own_lt {w : World} {base n c g size : Nat} {e : TypeId} {xs : List Value} (h : w.ownsRow base e size (.slice (some ⟨g, 0, none⟩) n c) n xs) : g < w.heap.size := by
  rcases h.2 with ⟨hv, _⟩ | ⟨g', _, cur, hv, _, hh, _⟩
  · cases hv
  · cases hv; exact lt_of_block hh
theorem own_free {w : World} {base n c g size : Nat} {e : TypeId} {xs : List Value} (h : w.ownsRow base e size (.slice (some ⟨g, 0, none⟩) n c) n xs) (i : Nat) : w.frozen? ⟨g, i, none⟩ = false := by
  rcases h.2 with ⟨hv, _⟩ | ⟨g', _, cur, hv, _, hh, _⟩
  · cases hv
  · cases hv; simp [World.frozen?, hh]
theorem Lies.set {w : World} {g i : Nat} {ws : List Int} (h : Lies w g ws) (_hg : g < w.heap.size) (hi : i < ws.length) (y : Int) : Lies (w.setCell ⟨g, i, none⟩ (.int .u64 y)) g (ws.set i y) := fun j x hx => by
  by_cases e : i = j
  · subst e
    rw [List.getElem?_set_self hi] at hx
    cases hx
    obtain ⟨x0, h0⟩ : ∃ x0, ws[i]? = some x0 := ⟨_, List.getElem?_eq_getElem hi⟩
    have hc := h i x0 h0
    simp [go_sem, hc]
  · rw [List.getElem?_set_ne e] at hx
    have hc := h j x hx
    rw [World.cell?_setCell_other _ _ _ _ (by intro e'; cases e'; exact e rfl)]
    exact hc
theorem Lies.drew {w : World} {g : Nat} {ws : List Int} (h : Lies w g ws) : Lies w.drew g ws := h
theorem Lies.eq {w : World} {g : Nat} {ws ws' : List Int} (h : Lies w g ws) (e : ws = ws') : Lies w g ws' := e ▸ h
theorem same_set {l : List Int} {q : Nat} {x : Int} (h : l[q]? = some x) : l.set q x = l := by
  apply List.ext_getElem?
  intro i
  by_cases e : q = i
  · subst e; rw [List.getElem?_set_self (List.getElem?_eq_some_iff.1 h).1, h]
  · rw [List.getElem?_set_ne e]
theorem Lies.far {w : World} {g : Nat} {ws : List Int} (h : Lies w g ws) {p : Addr} (hp : ¬ p.block = g) (u : Value) : Lies (w.setCell p u) g ws := fun j x hx => by
  rw [World.cell?_setCell_other _ _ _ _ (fun e' => hp (by rw [e']))]
  exact h j x hx
theorem ract_load {w : World} {g c i : Nat} {ws : List Int} {x : Int} (hx : ws[i]? = some x) (h : Lies w g ws) (hg : g < w.heap.size) (hl : ws.length ≤ 1000000) :
    Calls Try.prog 34 #[.slice (some ⟨g, 0, none⟩) ws.length c, .int .u8 1, .int .i64 (i : Int), .int .u64 0, .int .u64 0] w (RActed w ws 1 (i : Int) x x true) := by
  have hil := lt_of_get hx
  have c0 : w.cell? ⟨g, i, none⟩ = some (.int .u64 x) := h i _ hx
  have hne : ¬ g = w.heap.size := by omega
  have hne1 : ¬ g = w.heap.size + 1 := by omega
  have hlt2 : (i : Int) < (ws.length : Int) := by omega
  have hg1 : g < w.heap.size + 1 := by omega
  have hg2 : g < w.heap.size + 1 + 1 := by omega
  have H := Lib.hid h
  have HL := Lib.hid hl
  have HX := Lib.hid hx
  clear h hx
  go_enter Try.func34, Try.ntmps34
  go_upto_region 1 with fail
  go_cut [12] (fun s12 wx => s12 = .pointer (some ⟨w.heap.size + 1, 0, none⟩) ∧ ∃ m, wx = ((w.alloc (.cells #[.int .u8 0, .int .i64 0, .int .u64 0, .int .u64 0, .bool false] 46)).alloc (.cells #[.int .u8 1, .int .i64 (i : Int), .int .u64 x, .int .u64 x, .bool true] 46)).drewN m)
  case first =>
    go_region
    all_goals
      go_wp2_with fail
      go_meet
      exact ⟨rfl, 1, rfl⟩
  case rest =>
  obtain ⟨rfl, mm, rfl⟩ := hcut
  go_upto_region 12 with (go_at_call 46; go_loud ((refine (copy_any (xs := ws) (w := ((w.alloc (.cells #[.int .u8 0, .int .i64 0, .int .u64 0, .int .u64 0, .bool false] 46)).alloc (.cells #[.int .u8 1, .int .i64 (i : Int), .int .u64 x, .int .u64 x, .bool true] 46)).drewN mm) (H.out.below (Below.draws (((Below.refl w.heap.size w).alloc (Nat.le_refl _) _).alloc (by simp) _) _) hg) (by simp; omega) (by omega) HL.out).mono ?_); rintro e w3 ⟨g2, c2, rfl, hg3, ho, hb⟩; have ra : Row w3 w.heap.size 46 [.int .u8 0, .int .i64 0, .int .u64 0, .int .u64 0, .bool false] := (Row.drewN ((Row.new w _ _).alloc _) _).below hb (by simp; omega); have rd : Row w3 (w.heap.size + 1) 46 [.int .u8 1, .int .i64 (i : Int), .int .u64 x, .int .u64 x, .bool true] := (Row.drewN (Row.new2 w _ _ _ rfl) _).below hb (by simp); obtain ⟨d0, d1, d2, d3, d4⟩ := rd.five; have dlt := rd.lt; obtain ⟨a0, a1, a2, a3, a4⟩ := ra.five; have af := ra.free; have alt := ra.lt; have HO := Lib.hid (own_lies ho); have ol := own_lt ho; have of := own_free ho; have oc : w3.cell? ⟨g2, i, none⟩ = some (.int .u64 x) := HO.out i _ HX.out; have HBB := Lib.hid ((Below.draws (((Below.refl w.heap.size w).alloc (Nat.le_refl _) _).alloc (by simp) _) _).trans (hb.mono (by simp; omega))); have HGL : Hid (w.heap.size ≤ g2) := Lib.hid (by simp at hg3; omega); have m0 : ¬ g2 = w.heap.size := (by simp at hg3; omega); have m1 : ¬ w.heap.size = g2 := (by omega); have m2 : ¬ g2 = w.heap.size + 1 := (by simp at hg3; omega); have m3 : ¬ w.heap.size + 1 = g2 := (by omega); clear ra rd ho hb hg3))
  go_wp2
  go_region
  all_goals
    go_wp2
    refine bodyPost_ret (v := .tuple #[.slice (some ⟨g2, 0, none⟩) ws.length c2, .agg #[.int .u8 1, .int .i64 (i : Int), .int .u64 x, .int .u64 x, .bool true]]) (by simp [results, Try.results34, go_sem, a0, a1, a2, a3, a4]) rfl ?_
    refine ⟨g2, c2, by simp, HGL.out, by simpa using ol, ?_, ?_⟩
    · refine Lies.eq (ws := ws.set i x) ?_ (same_set HX.out)
      repeat (first | (with_reducible exact HO.out.set ol hil _) | (with_reducible refine Lies.drew ?_) | (with_reducible refine Lies.far ?_ m1 _))
    · repeat (first | (with_reducible exact HBB.out) | (with_reducible refine Below.drew ?_) | (with_reducible refine Below.setCell ?_ (by first | exact HGL.out | exact Nat.le_refl _) _))
theorem ract_add {w : World} {g c i : Nat} {ws : List Int} {x y : Int} (hx : ws[i]? = some x) (h : Lies w g ws) (hg : g < w.heap.size) (hl : ws.length ≤ 1000000) :
    Calls Try.prog 34 #[.slice (some ⟨g, 0, none⟩) ws.length c, .int .u8 3, .int .i64 (i : Int), .int .u64 0, .int .u64 y] w (RActed w (ws.set i (IntKind.u64.wrap (x + y))) 3 (i : Int) x (IntKind.u64.wrap (x + y)) true) := by
  have hil := lt_of_get hx
  have c0 : w.cell? ⟨g, i, none⟩ = some (.int .u64 x) := h i _ hx
  have hne : ¬ g = w.heap.size := by omega
  have hne1 : ¬ g = w.heap.size + 1 := by omega
  have hlt2 : (i : Int) < (ws.length : Int) := by omega
  have hg1 : g < w.heap.size + 1 := by omega
  have hg2 : g < w.heap.size + 1 + 1 := by omega
  have H := Lib.hid h
  have HL := Lib.hid hl
  have HX := Lib.hid hx
  clear h hx
  go_enter Try.func34, Try.ntmps34
  go_upto_region 1 with fail
  go_cut [12] (fun s12 wx => s12 = .pointer (some ⟨w.heap.size + 1, 0, none⟩) ∧ ∃ m, wx = ((w.alloc (.cells #[.int .u8 0, .int .i64 0, .int .u64 0, .int .u64 0, .bool false] 46)).alloc (.cells #[.int .u8 3, .int .i64 (i : Int), .int .u64 x, .int .u64 x, .bool true] 46)).drewN m)
  case first =>
    go_region
    all_goals
      go_wp2_with fail
      go_meet
      exact ⟨rfl, 1, rfl⟩
  case rest =>
  obtain ⟨rfl, mm, rfl⟩ := hcut
  go_upto_region 12 with (go_at_call 46; go_loud ((refine (copy_any (xs := ws) (w := (((w.alloc (.cells #[.int .u8 0, .int .i64 0, .int .u64 0, .int .u64 0, .bool false] 46)).alloc (.cells #[.int .u8 3, .int .i64 (i : Int), .int .u64 x, .int .u64 x, .bool true] 46)).drewN mm).setCell ⟨w.heap.size + 1, 3, none⟩ (.int .u64 (IntKind.u64.wrap (x + y)))) (H.out.below (Below.setCell (Below.draws (((Below.refl w.heap.size w).alloc (Nat.le_refl _) _).alloc (by simp) _) _) (Nat.le_succ w.heap.size) _) hg) (by simp; omega) (by omega) HL.out).mono ?_); rintro e w3 ⟨g2, c2, rfl, hg3, ho, hb⟩; have ra : Row w3 w.heap.size 46 [.int .u8 0, .int .i64 0, .int .u64 0, .int .u64 0, .bool false] := ((Row.drewN ((Row.new w _ _).alloc _) _).far (Nat.succ_ne_self w.heap.size) _).below hb (by simp; omega); have rd : Row w3 (w.heap.size + 1) 46 [.int .u8 3, .int .i64 (i : Int), .int .u64 x, .int .u64 (IntKind.u64.wrap (x + y)), .bool true] := ((Row.drewN (Row.new2 w _ _ _ rfl) _).set 3 (.int .u64 (IntKind.u64.wrap (x + y)))).below hb (by simp); obtain ⟨d0, d1, d2, d3, d4⟩ := rd.five; have dlt := rd.lt; obtain ⟨a0, a1, a2, a3, a4⟩ := ra.five; have af := ra.free; have alt := ra.lt; have HO := Lib.hid (own_lies ho); have ol := own_lt ho; have of := own_free ho; have oc : w3.cell? ⟨g2, i, none⟩ = some (.int .u64 x) := HO.out i _ HX.out; have HBB := Lib.hid ((Below.setCell (Below.draws (((Below.refl w.heap.size w).alloc (Nat.le_refl _) _).alloc (by simp) _) _) (Nat.le_succ w.heap.size) _).trans (hb.mono (by simp; omega))); have HGL : Hid (w.heap.size ≤ g2) := Lib.hid (by simp at hg3; omega); have m0 : ¬ g2 = w.heap.size := (by simp at hg3; omega); have m1 : ¬ w.heap.size = g2 := (by omega); have m2 : ¬ g2 = w.heap.size + 1 := (by simp at hg3; omega); have m3 : ¬ w.heap.size + 1 = g2 := (by omega); clear ra rd ho hb hg3))
  go_wp2
  go_region
  all_goals
    go_wp2
    refine bodyPost_ret (v := .tuple #[.slice (some ⟨g2, 0, none⟩) ws.length c2, .agg #[.int .u8 3, .int .i64 (i : Int), .int .u64 x, .int .u64 (IntKind.u64.wrap (x + y)), .bool true]]) (by simp [results, Try.results34, go_sem, a0, a1, a2, a3, a4]) rfl ?_
    refine ⟨g2, c2, by simp, HGL.out, by simpa using ol, ?_, ?_⟩
    · refine Lies.eq (ws := ws.set i (IntKind.u64.wrap (x + y))) ?_ (rfl)
      repeat (first | (with_reducible exact HO.out.set ol hil _) | (with_reducible refine Lies.drew ?_) | (with_reducible refine Lies.far ?_ m1 _))
    · repeat (first | (with_reducible exact HBB.out) | (with_reducible refine Below.drew ?_) | (with_reducible refine Below.setCell ?_ (by first | exact HGL.out | exact Nat.le_refl _) _))
theorem ract_swap {w : World} {g c i : Nat} {ws : List Int} {x y : Int} (hx : ws[i]? = some x) (h : Lies w g ws) (hg : g < w.heap.size) (hl : ws.length ≤ 1000000) :
    Calls Try.prog 34 #[.slice (some ⟨g, 0, none⟩) ws.length c, .int .u8 4, .int .i64 (i : Int), .int .u64 0, .int .u64 y] w (RActed w (ws.set i y) 4 (i : Int) x y true) := by
  have hil := lt_of_get hx
  have c0 : w.cell? ⟨g, i, none⟩ = some (.int .u64 x) := h i _ hx
  have hne : ¬ g = w.heap.size := by omega
  have hne1 : ¬ g = w.heap.size + 1 := by omega
  have hlt2 : (i : Int) < (ws.length : Int) := by omega
  have hg1 : g < w.heap.size + 1 := by omega
  have hg2 : g < w.heap.size + 1 + 1 := by omega
  have H := Lib.hid h
  have HL := Lib.hid hl
  have HX := Lib.hid hx
  clear h hx
  go_enter Try.func34, Try.ntmps34
  go_upto_region 1 with fail
  go_cut [12] (fun s12 wx => s12 = .pointer (some ⟨w.heap.size + 1, 0, none⟩) ∧ ∃ m, wx = ((w.alloc (.cells #[.int .u8 0, .int .i64 0, .int .u64 0, .int .u64 0, .bool false] 46)).alloc (.cells #[.int .u8 4, .int .i64 (i : Int), .int .u64 x, .int .u64 x, .bool true] 46)).drewN m)
  case first =>
    go_region
    all_goals
      go_wp2_with fail
      go_meet
      exact ⟨rfl, 1, rfl⟩
  case rest =>
  obtain ⟨rfl, mm, rfl⟩ := hcut
  go_upto_region 12 with (go_at_call 46; go_loud ((refine (copy_any (xs := ws) (w := (((w.alloc (.cells #[.int .u8 0, .int .i64 0, .int .u64 0, .int .u64 0, .bool false] 46)).alloc (.cells #[.int .u8 4, .int .i64 (i : Int), .int .u64 x, .int .u64 x, .bool true] 46)).drewN mm).setCell ⟨w.heap.size + 1, 3, none⟩ (.int .u64 y)) (H.out.below (Below.setCell (Below.draws (((Below.refl w.heap.size w).alloc (Nat.le_refl _) _).alloc (by simp) _) _) (Nat.le_succ w.heap.size) _) hg) (by simp; omega) (by omega) HL.out).mono ?_); rintro e w3 ⟨g2, c2, rfl, hg3, ho, hb⟩; have ra : Row w3 w.heap.size 46 [.int .u8 0, .int .i64 0, .int .u64 0, .int .u64 0, .bool false] := ((Row.drewN ((Row.new w _ _).alloc _) _).far (Nat.succ_ne_self w.heap.size) _).below hb (by simp; omega); have rd : Row w3 (w.heap.size + 1) 46 [.int .u8 4, .int .i64 (i : Int), .int .u64 x, .int .u64 y, .bool true] := ((Row.drewN (Row.new2 w _ _ _ rfl) _).set 3 (.int .u64 y)).below hb (by simp); obtain ⟨d0, d1, d2, d3, d4⟩ := rd.five; have dlt := rd.lt; obtain ⟨a0, a1, a2, a3, a4⟩ := ra.five; have af := ra.free; have alt := ra.lt; have HO := Lib.hid (own_lies ho); have ol := own_lt ho; have of := own_free ho; have oc : w3.cell? ⟨g2, i, none⟩ = some (.int .u64 x) := HO.out i _ HX.out; have HBB := Lib.hid ((Below.setCell (Below.draws (((Below.refl w.heap.size w).alloc (Nat.le_refl _) _).alloc (by simp) _) _) (Nat.le_succ w.heap.size) _).trans (hb.mono (by simp; omega))); have HGL : Hid (w.heap.size ≤ g2) := Lib.hid (by simp at hg3; omega); have m0 : ¬ g2 = w.heap.size := (by simp at hg3; omega); have m1 : ¬ w.heap.size = g2 := (by omega); have m2 : ¬ g2 = w.heap.size + 1 := (by simp at hg3; omega); have m3 : ¬ w.heap.size + 1 = g2 := (by omega); clear ra rd ho hb hg3))
  go_wp2
  go_region
  all_goals
    go_wp2
    refine bodyPost_ret (v := .tuple #[.slice (some ⟨g2, 0, none⟩) ws.length c2, .agg #[.int .u8 4, .int .i64 (i : Int), .int .u64 x, .int .u64 y, .bool true]]) (by simp [results, Try.results34, go_sem, a0, a1, a2, a3, a4]) rfl ?_
    refine ⟨g2, c2, by simp, HGL.out, by simpa using ol, ?_, ?_⟩
    · refine Lies.eq (ws := ws.set i y) ?_ (rfl)
      repeat (first | (with_reducible exact HO.out.set ol hil _) | (with_reducible refine Lies.drew ?_) | (with_reducible refine Lies.far ?_ m1 _))
    · repeat (first | (with_reducible exact HBB.out) | (with_reducible refine Below.drew ?_) | (with_reducible refine Below.setCell ?_ (by first | exact HGL.out | exact Nat.le_refl _) _))
theorem ract_hit {w : World} {g c i : Nat} {ws : List Int} {x y : Int} (hx : ws[i]? = some x) (h : Lies w g ws) (hg : g < w.heap.size) (hl : ws.length ≤ 1000000) :
    Calls Try.prog 34 #[.slice (some ⟨g, 0, none⟩) ws.length c, .int .u8 5, .int .i64 (i : Int), .int .u64 x, .int .u64 y] w (RActed w (ws.set i y) 5 (i : Int) x y true) := by
  have hil := lt_of_get hx
  have c0 : w.cell? ⟨g, i, none⟩ = some (.int .u64 x) := h i _ hx
  have hne : ¬ g = w.heap.size := by omega
  have hne1 : ¬ g = w.heap.size + 1 := by omega
  have hlt2 : (i : Int) < (ws.length : Int) := by omega
  have hg1 : g < w.heap.size + 1 := by omega
  have hg2 : g < w.heap.size + 1 + 1 := by omega
  have H := Lib.hid h
  have HL := Lib.hid hl
  have HX := Lib.hid hx
  clear h hx
  go_enter Try.func34, Try.ntmps34
  go_upto_region 1 with fail
  go_cut [12] (fun s12 wx => s12 = .pointer (some ⟨w.heap.size + 1, 0, none⟩) ∧ ∃ m, wx = ((w.alloc (.cells #[.int .u8 0, .int .i64 0, .int .u64 0, .int .u64 0, .bool false] 46)).alloc (.cells #[.int .u8 5, .int .i64 (i : Int), .int .u64 x, .int .u64 x, .bool true] 46)).drewN m)
  case first =>
    go_region
    all_goals
      go_wp2_with fail
      go_meet
      exact ⟨rfl, 1, rfl⟩
  case rest =>
  obtain ⟨rfl, mm, rfl⟩ := hcut
  go_upto_region 12 with (go_at_call 46; go_loud ((refine (copy_any (xs := ws) (w := ((((w.alloc (.cells #[.int .u8 0, .int .i64 0, .int .u64 0, .int .u64 0, .bool false] 46)).alloc (.cells #[.int .u8 5, .int .i64 (i : Int), .int .u64 x, .int .u64 x, .bool true] 46)).drewN mm).setCell ⟨w.heap.size + 1, 4, none⟩ (.bool true)).setCell ⟨w.heap.size + 1, 3, none⟩ (.int .u64 y)) (H.out.below (Below.setCell (Below.setCell (Below.draws (((Below.refl w.heap.size w).alloc (Nat.le_refl _) _).alloc (by simp) _) _) (Nat.le_succ w.heap.size) _) (Nat.le_succ w.heap.size) _) hg) (by simp; omega) (by omega) HL.out).mono ?_); rintro e w3 ⟨g2, c2, rfl, hg3, ho, hb⟩; have ra : Row w3 w.heap.size 46 [.int .u8 0, .int .i64 0, .int .u64 0, .int .u64 0, .bool false] := (((Row.drewN ((Row.new w _ _).alloc _) _).far (Nat.succ_ne_self w.heap.size) _).far (Nat.succ_ne_self w.heap.size) _).below hb (by simp; omega); have rd : Row w3 (w.heap.size + 1) 46 [.int .u8 5, .int .i64 (i : Int), .int .u64 x, .int .u64 y, .bool true] := (((Row.drewN (Row.new2 w _ _ _ rfl) _).set 4 (.bool true)).set 3 (.int .u64 y)).below hb (by simp); obtain ⟨d0, d1, d2, d3, d4⟩ := rd.five; have dlt := rd.lt; obtain ⟨a0, a1, a2, a3, a4⟩ := ra.five; have af := ra.free; have alt := ra.lt; have HO := Lib.hid (own_lies ho); have ol := own_lt ho; have of := own_free ho; have oc : w3.cell? ⟨g2, i, none⟩ = some (.int .u64 x) := HO.out i _ HX.out; have HBB := Lib.hid ((Below.setCell (Below.setCell (Below.draws (((Below.refl w.heap.size w).alloc (Nat.le_refl _) _).alloc (by simp) _) _) (Nat.le_succ w.heap.size) _) (Nat.le_succ w.heap.size) _).trans (hb.mono (by simp; omega))); have HGL : Hid (w.heap.size ≤ g2) := Lib.hid (by simp at hg3; omega); have m0 : ¬ g2 = w.heap.size := (by simp at hg3; omega); have m1 : ¬ w.heap.size = g2 := (by omega); have m2 : ¬ g2 = w.heap.size + 1 := (by simp at hg3; omega); have m3 : ¬ w.heap.size + 1 = g2 := (by omega); clear ra rd ho hb hg3))
  go_wp2
  go_region
  all_goals
    go_wp2
    refine bodyPost_ret (v := .tuple #[.slice (some ⟨g2, 0, none⟩) ws.length c2, .agg #[.int .u8 5, .int .i64 (i : Int), .int .u64 x, .int .u64 y, .bool true]]) (by simp [results, Try.results34, go_sem, a0, a1, a2, a3, a4]) rfl ?_
    refine ⟨g2, c2, by simp, HGL.out, by simpa using ol, ?_, ?_⟩
    · refine Lies.eq (ws := ws.set i y) ?_ (rfl)
      repeat (first | (with_reducible exact HO.out.set ol hil _) | (with_reducible refine Lies.drew ?_) | (with_reducible refine Lies.far ?_ m1 _))
    · repeat (first | (with_reducible exact HBB.out) | (with_reducible refine Below.drew ?_) | (with_reducible refine Below.setCell ?_ (by first | exact HGL.out | exact Nat.le_refl _) _))
theorem ract_miss {w : World} {g c i : Nat} {ws : List Int} {x y z : Int} (hx : ws[i]? = some x) (hne0 : (x == z) = false) (h : Lies w g ws) (hg : g < w.heap.size) (hl : ws.length ≤ 1000000) :
    Calls Try.prog 34 #[.slice (some ⟨g, 0, none⟩) ws.length c, .int .u8 5, .int .i64 (i : Int), .int .u64 z, .int .u64 y] w (RActed w ws 5 (i : Int) x x false) := by
  have hil := lt_of_get hx
  have c0 : w.cell? ⟨g, i, none⟩ = some (.int .u64 x) := h i _ hx
  have hne : ¬ g = w.heap.size := by omega
  have hne1 : ¬ g = w.heap.size + 1 := by omega
  have hlt2 : (i : Int) < (ws.length : Int) := by omega
  have hg1 : g < w.heap.size + 1 := by omega
  have hg2 : g < w.heap.size + 1 + 1 := by omega
  have H := Lib.hid h
  have HL := Lib.hid hl
  have HX := Lib.hid hx
  clear h hx
  go_enter Try.func34, Try.ntmps34
  go_upto_region 1 with fail
  go_cut [12] (fun s12 wx => s12 = .pointer (some ⟨w.heap.size + 1, 0, none⟩) ∧ ∃ m, wx = ((w.alloc (.cells #[.int .u8 0, .int .i64 0, .int .u64 0, .int .u64 0, .bool false] 46)).alloc (.cells #[.int .u8 5, .int .i64 (i : Int), .int .u64 x, .int .u64 x, .bool true] 46)).drewN m)
  case first =>
    go_region
    all_goals
      go_wp2_with fail
      go_meet
      exact ⟨rfl, 1, rfl⟩
  case rest =>
  obtain ⟨rfl, mm, rfl⟩ := hcut
  go_upto_region 12 with (go_at_call 46; go_loud ((refine (copy_any (xs := ws) (w := (((w.alloc (.cells #[.int .u8 0, .int .i64 0, .int .u64 0, .int .u64 0, .bool false] 46)).alloc (.cells #[.int .u8 5, .int .i64 (i : Int), .int .u64 x, .int .u64 x, .bool true] 46)).drewN mm).setCell ⟨w.heap.size + 1, 4, none⟩ (.bool false)) (H.out.below (Below.setCell (Below.draws (((Below.refl w.heap.size w).alloc (Nat.le_refl _) _).alloc (by simp) _) _) (Nat.le_succ w.heap.size) _) hg) (by simp; omega) (by omega) HL.out).mono ?_); rintro e w3 ⟨g2, c2, rfl, hg3, ho, hb⟩; have ra : Row w3 w.heap.size 46 [.int .u8 0, .int .i64 0, .int .u64 0, .int .u64 0, .bool false] := ((Row.drewN ((Row.new w _ _).alloc _) _).far (Nat.succ_ne_self w.heap.size) _).below hb (by simp; omega); have rd : Row w3 (w.heap.size + 1) 46 [.int .u8 5, .int .i64 (i : Int), .int .u64 x, .int .u64 x, .bool false] := ((Row.drewN (Row.new2 w _ _ _ rfl) _).set 4 (.bool false)).below hb (by simp); obtain ⟨d0, d1, d2, d3, d4⟩ := rd.five; have dlt := rd.lt; obtain ⟨a0, a1, a2, a3, a4⟩ := ra.five; have af := ra.free; have alt := ra.lt; have HO := Lib.hid (own_lies ho); have ol := own_lt ho; have of := own_free ho; have oc : w3.cell? ⟨g2, i, none⟩ = some (.int .u64 x) := HO.out i _ HX.out; have HBB := Lib.hid ((Below.setCell (Below.draws (((Below.refl w.heap.size w).alloc (Nat.le_refl _) _).alloc (by simp) _) _) (Nat.le_succ w.heap.size) _).trans (hb.mono (by simp; omega))); have HGL : Hid (w.heap.size ≤ g2) := Lib.hid (by simp at hg3; omega); have m0 : ¬ g2 = w.heap.size := (by simp at hg3; omega); have m1 : ¬ w.heap.size = g2 := (by omega); have m2 : ¬ g2 = w.heap.size + 1 := (by simp at hg3; omega); have m3 : ¬ w.heap.size + 1 = g2 := (by omega); clear ra rd ho hb hg3))
  go_wp2
  go_region
  all_goals
    go_wp2
    refine bodyPost_ret (v := .tuple #[.slice (some ⟨g2, 0, none⟩) ws.length c2, .agg #[.int .u8 5, .int .i64 (i : Int), .int .u64 x, .int .u64 x, .bool false]]) (by simp [results, Try.results34, go_sem, a0, a1, a2, a3, a4]) rfl ?_
    refine ⟨g2, c2, by simp, HGL.out, by simpa using ol, ?_, ?_⟩
    · refine Lies.eq (ws := ws.set i x) ?_ (same_set HX.out)
      repeat (first | (with_reducible exact HO.out.set ol hil _) | (with_reducible refine Lies.drew ?_) | (with_reducible refine Lies.far ?_ m1 _))
    · repeat (first | (with_reducible exact HBB.out) | (with_reducible refine Below.drew ?_) | (with_reducible refine Below.setCell ?_ (by first | exact HGL.out | exact Nat.le_refl _) _))
end Go.Proofs.Ytddlalljdecdoaa
