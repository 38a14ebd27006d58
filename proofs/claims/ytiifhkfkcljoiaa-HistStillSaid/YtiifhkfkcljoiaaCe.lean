/- THE WALKS of package cells: act, Do. -/
import Derived.Test.YtiifhkfkcljoiaaCd
namespace Go.Proofs.Ytiifhkfkcljoiaa
open Go Go.RowKit

/-- what an action leaves: what it did; the words behind it; nothing else that was there has turned -/
def Acted (w : World) (bk bw : Nat) (ws : List Int) (v : Value) (e : Ending) (w' : World) : Prop := e = .returned v ∧ Words w' bk bw ws ∧ Part [bw] w w'

theorem Row.five {w : World} {b : Nat} {t : TypeId} {x0 x1 x2 x3 x4 : Value} (h : Row w b t [x0, x1, x2, x3, x4]) :
    w.cell? ⟨b, 0, none⟩ = some x0 ∧ w.cell? ⟨b, 1, none⟩ = some x1 ∧ w.cell? ⟨b, 2, none⟩ = some x2 ∧ w.cell? ⟨b, 3, none⟩ = some x3 ∧ w.cell? ⟨b, 4, none⟩ = some x4 :=
  ⟨h.cell 0, h.cell 1, h.cell 2, h.cell 3, h.cell 4⟩
theorem Row.four {w : World} {b : Nat} {t : TypeId} {x0 x1 x2 x3 : Value} (h : Row w b t [x0, x1, x2, x3]) :
    w.cell? ⟨b, 0, none⟩ = some x0 ∧ w.cell? ⟨b, 1, none⟩ = some x1 ∧ w.cell? ⟨b, 2, none⟩ = some x2 ∧ w.cell? ⟨b, 3, none⟩ = some x3 :=
  ⟨h.cell 0, h.cell 1, h.cell 2, h.cell 3⟩
theorem Row.new2 (w : World) (o : Obj) (t : TypeId) (l : List Value) {n : Nat} (hn : n = w.heap.size + 1) : Row ((w.alloc o).alloc (.cells l.toArray t)) n t l := by
  subst hn
  have h := Row.new (w.alloc o) t l
  rwa [World.size_alloc] at h
theorem Row.new2b {w w2 : World} {o : Obj} {t : TypeId} {l : List Value} {n k : Nat} (hb : Below (((w.alloc o).alloc (.cells l.toArray t)).drewN k).heap.size (((w.alloc o).alloc (.cells l.toArray t)).drewN k) w2) (hn : n = w.heap.size + 1) : Row w2 n t l :=
  Row.below (w := ((w.alloc o).alloc (.cells l.toArray t)).drewN k) (Row.new2 w o t l hn) hb (by simp; omega)
theorem Row.new2c {w w2 : World} {o : Obj} {t : TypeId} {l : List Value} {n k : Nat} {p : Addr} {u : Value} (hb : Below ((((w.alloc o).alloc (.cells l.toArray t)).drewN k).setCell p u).heap.size ((((w.alloc o).alloc (.cells l.toArray t)).drewN k).setCell p u) w2) (hn : n = w.heap.size + 1) (hp : p.block < w.heap.size) : Row w2 n t l :=
  Row.below (w := (((w.alloc o).alloc (.cells l.toArray t)).drewN k).setCell p u) (Row.far (w := ((w.alloc o).alloc (.cells l.toArray t)).drewN k) (Row.new2 w o t l hn) (by omega) u) hb (by simp; omega)
theorem Part.drewN {S : List Nat} {w w1 : World} (h : Part S w w1) (k : Nat) : Part S w (w1.drewN k) := ⟨h.os, h.tape, h.output, h.size, h.block⟩
theorem acted_set {w wf : World} {bk bw : Nat} {ws : List Int} {o o' : Obj} {k i : Nat} {y : Int} (h : Words w bk bw ws) (hy : U64 y)
    (hP : Part [w.heap.size + 1] ((((w.alloc o).alloc o').drewN k).setCell ⟨bw, i, none⟩ (.int .u64 y)) wf) : Words wf bk bw (ws.set i y) ∧ Part [bw] w wf := by
  have h1 := h.head.lt
  have h2 := h.row.lt
  have hX : Words ((w.alloc o).alloc o') bk bw ws := (h.alloc o).alloc o'
  have hX' : Words (((w.alloc o).alloc o').drewN k) bk bw ws := ⟨hX.head, hX.row, hX.few, hX.ok⟩
  refine ⟨(hX'.set i hy).part hP (by simp; omega) (by simp; omega), Part.trans (Part.set (p := ⟨bw, i, none⟩) (Part.drewN (Part.alloc (Part.alloc (Part.refl [bw] w) o) o') k) (by simp) (.int .u64 y)) hP (fun q hq hm => ?_)⟩
  simp at hm
  omega

set_option maxHeartbeats 1600000
set_option maxRecDepth 100000
theorem act_load {w : World} {bk bw : Nat} {ws : List Int} (h : Words w bk bw ws) {i : Nat} {x : Int} (hi : ws[i]? = some x) :
    Calls Try.prog 97 #[.pointer (some ⟨bk, 0, none⟩), .agg #[.int .u8 1, .int .i64 (i : Int), .int .u64 0, .int .u64 0]] w (Acted w bk bw ws (.agg #[.int .u8 1, .int .i64 (i : Int), .int .u64 x, .int .u64 x, .bool true])) := by
  have hc := h.hc
  have hw := h.word hi
  have hk := h.head.lt
  have hb := h.row.lt
  have hl := lt_of_get hi
  have hn := h.few
  have hl' : (i : Int) < (ws.length : Int) := by omega
  have hz := h.row.free i
  have HW := Lib.hid (h)
  have HQ := Lib.hid (Part.refl [bw] w)
  clear h
  go_enter Try.func97, Try.ntmps97
  go_wp2
  go_quiet (fail)
  go_wp2_with (first
    | (go_at_call 73; refine (word_load (x := x) (by simp [go_sem, hb, hw])).mono ?_; rintro e w' ⟨rfl, rfl⟩)
    | (go_at_call 101; refine (out_load i 0 0 x _).mono ?_; rintro e w2 ⟨rfl, hb2⟩; have HB2 := Lib.hid hb2; clear hb2; have hr2 : Row w2 (w.heap.size + 1) 50 [.int .u8 0, .int .i64 0, .int .u64 0, .int .u64 0, .bool false] := Row.new2b (w := w) HB2.out rfl; obtain ⟨d0, d1, d2, d3, d4⟩ := hr2.five; have hf2 := hr2.free; clear hr2))
  refine bodyPost_ret (v := .agg #[.int .u8 1, .int .i64 (i : Int), .int .u64 x, .int .u64 x, .bool true]) (by simp [results, Try.results97, go_sem, d0, d1, d2, d3, d4]) rfl ⟨rfl, ?_⟩
  suffices hP : Part [] w _ from ⟨HW.out.part hP (by simp) (by simp), HQ.out.then_ (hP.mono (by simp))⟩
  repeat (refine Part.set ?_ (by simp) _)
  refine Part.then_ ?_ (Part.of_below HB2.out (Nat.le_refl _) [])
  repeat (first | exact Part.refl _ _ | refine Part.drewN ?_ _ | refine Part.alloc ?_ _)
theorem act_store {w : World} {bk bw : Nat} {ws : List Int} (h : Words w bk bw ws) {i : Nat} {x : Int} {y : Int} (hi : ws[i]? = some x) (hy : U64 y) :
    Calls Try.prog 97 #[.pointer (some ⟨bk, 0, none⟩), .agg #[.int .u8 2, .int .i64 (i : Int), .int .u64 0, .int .u64 y]] w (Acted w bk bw (ws.set i y) (.agg #[.int .u8 2, .int .i64 (i : Int), .int .u64 x, .int .u64 y, .bool true])) := by
  have hc := h.hc
  have hw := h.word hi
  have hk := h.head.lt
  have hb := h.row.lt
  have hl := lt_of_get hi
  have hn := h.few
  have hl' : (i : Int) < (ws.length : Int) := by omega
  have hz := h.row.free i
  have HW := Lib.hid (h)
  have HQ := Lib.hid (Part.refl [bw] w)
  clear h
  have HY := Lib.hid hy
  clear hy
  go_enter Try.func97, Try.ntmps97
  go_wp2
  go_quiet (fail)
  go_wp2_with (first
    | (go_at_call 98; refine (word_swap (x := x) (y := y) (by simp [go_sem, hb, hw]) (by simp [go_sem, hb, hz])).mono ?_; rintro e w' ⟨rfl, rfl⟩)
    | (go_at_call 101; refine (out_store i 0 y x _).mono ?_; rintro e w2 ⟨rfl, hb2⟩; have HB2 := Lib.hid hb2; clear hb2; have hr2 : Row w2 (w.heap.size + 1) 50 [.int .u8 0, .int .i64 0, .int .u64 0, .int .u64 0, .bool false] := Row.new2c (w := w) HB2.out rfl hb; obtain ⟨d0, d1, d2, d3, d4⟩ := hr2.five; have hf2 := hr2.free; clear hr2))
  refine bodyPost_ret (v := .agg #[.int .u8 2, .int .i64 (i : Int), .int .u64 x, .int .u64 y, .bool true]) (by simp [results, Try.results97, go_sem, d0, d1, d2, d3, d4]) rfl ⟨rfl, ?_⟩
  refine acted_set HW.out HY.out (Part.then_ (Part.of_below HB2.out (Nat.le_refl _) [w.heap.size + 1]) ?_)
  repeat (refine Part.set ?_ (by simp) _)
  exact Part.refl _ _
theorem act_swap {w : World} {bk bw : Nat} {ws : List Int} (h : Words w bk bw ws) {i : Nat} {x : Int} {y : Int} (hi : ws[i]? = some x) (hy : U64 y) :
    Calls Try.prog 97 #[.pointer (some ⟨bk, 0, none⟩), .agg #[.int .u8 4, .int .i64 (i : Int), .int .u64 0, .int .u64 y]] w (Acted w bk bw (ws.set i y) (.agg #[.int .u8 4, .int .i64 (i : Int), .int .u64 x, .int .u64 y, .bool true])) := by
  have hc := h.hc
  have hw := h.word hi
  have hk := h.head.lt
  have hb := h.row.lt
  have hl := lt_of_get hi
  have hn := h.few
  have hl' : (i : Int) < (ws.length : Int) := by omega
  have hz := h.row.free i
  have HW := Lib.hid (h)
  have HQ := Lib.hid (Part.refl [bw] w)
  clear h
  have HY := Lib.hid hy
  clear hy
  go_enter Try.func97, Try.ntmps97
  go_wp2
  go_quiet (fail)
  go_wp2_with (first
    | (go_at_call 98; refine (word_swap (x := x) (y := y) (by simp [go_sem, hb, hw]) (by simp [go_sem, hb, hz])).mono ?_; rintro e w' ⟨rfl, rfl⟩)
    | (go_at_call 101; refine (out_swap i 0 y x _).mono ?_; rintro e w2 ⟨rfl, hb2⟩; have HB2 := Lib.hid hb2; clear hb2; have hr2 : Row w2 (w.heap.size + 1) 50 [.int .u8 0, .int .i64 0, .int .u64 0, .int .u64 0, .bool false] := Row.new2c (w := w) HB2.out rfl hb; obtain ⟨d0, d1, d2, d3, d4⟩ := hr2.five; have hf2 := hr2.free; clear hr2))
  refine bodyPost_ret (v := .agg #[.int .u8 4, .int .i64 (i : Int), .int .u64 x, .int .u64 y, .bool true]) (by simp [results, Try.results97, go_sem, d0, d1, d2, d3, d4]) rfl ⟨rfl, ?_⟩
  refine acted_set HW.out HY.out (Part.then_ (Part.of_below HB2.out (Nat.le_refl _) [w.heap.size + 1]) ?_)
  repeat (refine Part.set ?_ (by simp) _)
  exact Part.refl _ _
theorem act_hit {w : World} {bk bw : Nat} {ws : List Int} (h : Words w bk bw ws) {i : Nat} {x : Int} {y : Int} (hi : ws[i]? = some x) (hy : U64 y) :
    Calls Try.prog 97 #[.pointer (some ⟨bk, 0, none⟩), .agg #[.int .u8 5, .int .i64 (i : Int), .int .u64 x, .int .u64 y]] w (Acted w bk bw (ws.set i y) (.agg #[.int .u8 5, .int .i64 (i : Int), .int .u64 x, .int .u64 y, .bool true])) := by
  have hc := h.hc
  have hw := h.word hi
  have hk := h.head.lt
  have hb := h.row.lt
  have hl := lt_of_get hi
  have hn := h.few
  have hl' : (i : Int) < (ws.length : Int) := by omega
  have hz := h.row.free i
  have HW := Lib.hid (h)
  have HQ := Lib.hid (Part.refl [bw] w)
  clear h
  have HY := Lib.hid hy
  clear hy
  go_enter Try.func97, Try.ntmps97
  go_wp2
  go_quiet (fail)
  go_wp2_with (first
    | (go_at_call 100; refine (cas_hit (x := x) (y := y) (by simp [go_sem, hb, hw]) (by simp [go_sem, hb, hz])).mono ?_; rintro e w' ⟨rfl, rfl⟩)
    | (go_at_call 101; refine (out_hit i x y _).mono ?_; rintro e w2 ⟨rfl, hb2⟩; have HB2 := Lib.hid hb2; clear hb2; have hr2 : Row w2 (w.heap.size + 1) 50 [.int .u8 0, .int .i64 0, .int .u64 0, .int .u64 0, .bool false] := Row.new2c (w := w) HB2.out rfl hb; obtain ⟨d0, d1, d2, d3, d4⟩ := hr2.five; have hf2 := hr2.free; clear hr2))
  refine bodyPost_ret (v := .agg #[.int .u8 5, .int .i64 (i : Int), .int .u64 x, .int .u64 y, .bool true]) (by simp [results, Try.results97, go_sem, d0, d1, d2, d3, d4]) rfl ⟨rfl, ?_⟩
  refine acted_set HW.out HY.out (Part.then_ (Part.of_below HB2.out (Nat.le_refl _) [w.heap.size + 1]) ?_)
  repeat (refine Part.set ?_ (by simp) _)
  exact Part.refl _ _
theorem act_miss {w : World} {bk bw : Nat} {ws : List Int} (h : Words w bk bw ws) {i : Nat} {x : Int} {o y : Int} (hi : ws[i]? = some x) (hne : ¬ x = o) :
    Calls Try.prog 97 #[.pointer (some ⟨bk, 0, none⟩), .agg #[.int .u8 5, .int .i64 (i : Int), .int .u64 o, .int .u64 y]] w (Acted w bk bw ws (.agg #[.int .u8 5, .int .i64 (i : Int), .int .u64 x, .int .u64 x, .bool false])) := by
  have hc := h.hc
  have hw := h.word hi
  have hk := h.head.lt
  have hb := h.row.lt
  have hl := lt_of_get hi
  have hn := h.few
  have hl' : (i : Int) < (ws.length : Int) := by omega
  have hz := h.row.free i
  have HN := Lib.hid hne
  clear hne
  have HW := Lib.hid (h)
  have HQ := Lib.hid (Part.refl [bw] w)
  clear h
  go_enter Try.func97, Try.ntmps97
  go_wp2
  go_quiet (fail)
  go_wp2_with (first
    | (go_at_call 100; refine (cas_miss (x := x) (o := o) (y := y) (by simp [go_sem, hb, hw]) HN.out).mono ?_; rintro e w' ⟨rfl, rfl⟩)
    | (go_at_call 101; refine (out_miss i o y x HN.out _).mono ?_; rintro e w2 ⟨rfl, hb2⟩; have HB2 := Lib.hid hb2; clear hb2; have hr2 : Row w2 (w.heap.size + 1) 50 [.int .u8 0, .int .i64 0, .int .u64 0, .int .u64 0, .bool false] := Row.new2b (w := w) HB2.out rfl; obtain ⟨d0, d1, d2, d3, d4⟩ := hr2.five; have hf2 := hr2.free; clear hr2))
  refine bodyPost_ret (v := .agg #[.int .u8 5, .int .i64 (i : Int), .int .u64 x, .int .u64 x, .bool false]) (by simp [results, Try.results97, go_sem, d0, d1, d2, d3, d4]) rfl ⟨rfl, ?_⟩
  suffices hP : Part [] w _ from ⟨HW.out.part hP (by simp) (by simp), HQ.out.then_ (hP.mono (by simp))⟩
  repeat (refine Part.set ?_ (by simp) _)
  refine Part.then_ ?_ (Part.of_below HB2.out (Nat.le_refl _) [])
  repeat (first | exact Part.refl _ _ | refine Part.drewN ?_ _ | refine Part.alloc ?_ _)
theorem act_add {w : World} {bk bw : Nat} {ws : List Int} (h0 : Words w bk bw ws) {i : Nat} {x : Int} {y : Int} (hi : ws[i]? = some x) :
    Calls Try.prog 97 #[.pointer (some ⟨bk, 0, none⟩), .agg #[.int .u8 3, .int .i64 (i : Int), .int .u64 0, .int .u64 y]] w (Acted w bk bw (ws.set i (IntKind.u64.wrap (x + y))) (.agg #[.int .u8 3, .int .i64 (i : Int), .int .u64 x, .int .u64 (IntKind.u64.wrap (x + y)), .bool true])) := by
  have h := h0
  have hc := h.hc
  have hw := h.word hi
  have hk := h.head.lt
  have hb := h.row.lt
  have hl := lt_of_get hi
  have hn := h.few
  have hl' : (i : Int) < (ws.length : Int) := by omega
  have hz := h.row.free i
  have HW := Lib.hid (h)
  have HQ := Lib.hid (Part.refl [bw] w)
  clear h
  have HY := Lib.hid (u64_wrap (x + y))
  have HX := Lib.hid ((h0.u64 hi).back y)
  go_enter Try.func97, Try.ntmps97
  go_wp2
  go_quiet (fail)
  go_wp2
  go_region_with (go_at_call 99; refine (word_add (x := x) (by simp [go_sem, hb, hw]) (by simp [go_sem, hb, hz])).mono ?_; rintro e w' ⟨rfl, rfl⟩)
  all_goals (
  go_wp2_with (first
    | (go_at_call 101; refine (out_add i 0 y _ _).mono ?_; rw [HX.out]; rintro e w2 ⟨rfl, hb2⟩; have HB2 := Lib.hid hb2; clear hb2; have hr2 : Row w2 (w.heap.size + 1) 50 [.int .u8 0, .int .i64 0, .int .u64 0, .int .u64 0, .bool false] := Row.new2c (w := w) HB2.out rfl hb; obtain ⟨d0, d1, d2, d3, d4⟩ := hr2.five; have hf2 := hr2.free; clear hr2))
  refine bodyPost_ret (v := .agg #[.int .u8 3, .int .i64 (i : Int), .int .u64 x, .int .u64 (IntKind.u64.wrap (x + y)), .bool true]) (by simp [results, Try.results97, go_sem, d0, d1, d2, d3, d4]) rfl ⟨rfl, ?_⟩
  refine acted_set HW.out HY.out (Part.then_ (Part.of_below HB2.out (Nat.le_refl _) [w.heap.size + 1]) ?_)
  repeat (refine Part.set ?_ (by simp) _)
  exact Part.refl _ _)
end Go.Proofs.Ytiifhkfkcljoiaa
