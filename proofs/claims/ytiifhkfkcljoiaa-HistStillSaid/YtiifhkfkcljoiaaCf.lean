/- THE WALKS of package cells: Do. -/
import Derived.Test.YtiifhkfkcljoiaaCe
namespace Go.Proofs.Ytiifhkfkcljoiaa
open Go Go.RowKit

theorem Row.one {w w1 : World} {o : Obj} {t : TypeId} {l : List Value} (hb : Below ((w.alloc (.cells l.toArray t)).alloc o).heap.size ((w.alloc (.cells l.toArray t)).alloc o) w1) : Row w1 w.heap.size t l :=
  Row.below (w := (w.alloc (.cells l.toArray t)).alloc o) ((Row.new w t l).alloc o) hb (by simp; omega)
theorem Row.two {w w1 : World} {o : Obj} {t : TypeId} {l : List Value} (hb : Below ((w.alloc o).alloc (.cells l.toArray t)).heap.size ((w.alloc o).alloc (.cells l.toArray t)) w1) : Row w1 (w.heap.size + 1) t l :=
  Row.below (w := (w.alloc o).alloc (.cells l.toArray t)) (Row.new2 w o t l rfl) hb (by simp)
theorem Words.below {w w1 : World} {bk bw B : Nat} {ws : List Int} (h : Words w bk bw ws) (hb : Below B w w1) (h1 : bk < B) (h2 : bw < B) : Words w1 bk bw ws := ⟨h.head.below hb h1, h.row.below hb h2, h.few, h.ok⟩
theorem Words.under {w w1 : World} {bk bw : Nat} {ws : List Int} {o o' : Obj} (h : Words w bk bw ws) (hb : Below ((w.alloc o).alloc o').heap.size ((w.alloc o).alloc o') w1) : Words w1 bk bw ws :=
  ((h.alloc o).alloc o').below hb (by have := h.head.lt; simp; omega) (by have := h.row.lt; simp; omega)
theorem did_end {w w1 w2 wf : World} {bk bw : Nat} {ws ws2 : List Int} {o o' : Obj} (h : Words w bk bw ws) (hb : Below ((w.alloc o).alloc o').heap.size ((w.alloc o).alloc o') w1)
    (hW : Words w2 bk bw ws2) (hP : Part [bw] w1 w2) (hE : Part [w.heap.size + 1] w2 wf) : Words wf bk bw ws2 ∧ Part [bw] w wf := by
  have h1 := h.head.lt
  have h2 := h.row.lt
  refine ⟨hW.part hE (by simp; omega) (by simp; omega), Part.trans (Part.then_ (Part.then_ (Part.alloc (Part.alloc (Part.refl [bw] w) o) o') (Part.of_below hb (Nat.le_refl _) [bw])) hP) hE (fun q hq hm => ?_)⟩
  simp at hm
  omega

set_option maxHeartbeats 1600000
set_option maxRecDepth 100000
theorem do_load {w : World} {bk bw : Nat} {ws : List Int} (h : Words w bk bw ws) {i : Nat} {x : Int} (hi : ws[i]? = some x) :
    Calls Try.prog 93 #[.pointer (some ⟨bk, 0, none⟩), .agg #[.int .u8 1, .int .i64 (i : Int), .int .u64 0, .int .u64 0]] w (Acted w bk bw ws (.tuple #[.agg #[.int .u8 1, .int .i64 (i : Int), .int .u64 x, .int .u64 x, .bool true], .int .i64 0])) := by
  have hl := lt_of_get hi
  have HI := Lib.hid hi
  have HW := Lib.hid h
  have hbw := h.row.lt
  clear h hi
  go_enter Try.func93, Try.ntmps93
  go_wp2_with (first
    | (go_at_call 96; refine (right_load i _).mono ?_; rintro e w1 ⟨rfl, hb1⟩; have HB1 := Lib.hid hb1; clear hb1; have HW1 := Lib.hid (HW.out.under HB1.out); have ra := Row.one HB1.out; have rd := Row.two HB1.out; obtain ⟨a0, a1, a2, a3⟩ := ra.four; have HD := Lib.hid rd; clear ra rd)
    | (go_at_call 53; refine (has_yes HW1.out hl).mono ?_; rintro e wx ⟨rfl, rfl⟩)
    | (go_at_call 97; refine (act_load HW1.out HI.out).mono ?_; rintro e w2 ⟨rfl, hW2, hP2⟩; have HW2 := Lib.hid hW2; have HP2 := Lib.hid hP2; clear hW2 hP2; have hr2 := HD.out.part HP2.out (by simp; omega); obtain ⟨d0, d1, d2, d3, d4⟩ := hr2.five; have hf2 := hr2.free; clear hr2))
  refine bodyPost_ret (v := .tuple #[.agg #[.int .u8 1, .int .i64 (i : Int), .int .u64 x, .int .u64 x, .bool true], .int .i64 0]) (by simp [results, Try.results93, go_sem, d0, d1, d2, d3, d4]) rfl ⟨rfl, ?_⟩
  refine did_end HW.out HB1.out HW2.out HP2.out ?_
  repeat (refine Part.set ?_ (by simp) _)
  exact Part.refl _ _
theorem do_store {w : World} {bk bw : Nat} {ws : List Int} (h : Words w bk bw ws) {i : Nat} {x : Int} {y : Int} (hi : ws[i]? = some x) (hy : U64 y) :
    Calls Try.prog 93 #[.pointer (some ⟨bk, 0, none⟩), .agg #[.int .u8 2, .int .i64 (i : Int), .int .u64 0, .int .u64 y]] w (Acted w bk bw (ws.set i y) (.tuple #[.agg #[.int .u8 2, .int .i64 (i : Int), .int .u64 x, .int .u64 y, .bool true], .int .i64 0])) := by
  have hl := lt_of_get hi
  have HI := Lib.hid hi
  have HW := Lib.hid h
  have hbw := h.row.lt
  clear h hi
  have HY := Lib.hid hy
  clear hy
  go_enter Try.func93, Try.ntmps93
  go_wp2_with (first
    | (go_at_call 96; refine (right_store i y _).mono ?_; rintro e w1 ⟨rfl, hb1⟩; have HB1 := Lib.hid hb1; clear hb1; have HW1 := Lib.hid (HW.out.under HB1.out); have ra := Row.one HB1.out; have rd := Row.two HB1.out; obtain ⟨a0, a1, a2, a3⟩ := ra.four; have HD := Lib.hid rd; clear ra rd)
    | (go_at_call 53; refine (has_yes HW1.out hl).mono ?_; rintro e wx ⟨rfl, rfl⟩)
    | (go_at_call 97; refine (act_store HW1.out HI.out HY.out).mono ?_; rintro e w2 ⟨rfl, hW2, hP2⟩; have HW2 := Lib.hid hW2; have HP2 := Lib.hid hP2; clear hW2 hP2; have hr2 := HD.out.part HP2.out (by simp; omega); obtain ⟨d0, d1, d2, d3, d4⟩ := hr2.five; have hf2 := hr2.free; clear hr2))
  refine bodyPost_ret (v := .tuple #[.agg #[.int .u8 2, .int .i64 (i : Int), .int .u64 x, .int .u64 y, .bool true], .int .i64 0]) (by simp [results, Try.results93, go_sem, d0, d1, d2, d3, d4]) rfl ⟨rfl, ?_⟩
  refine did_end HW.out HB1.out HW2.out HP2.out ?_
  repeat (refine Part.set ?_ (by simp) _)
  exact Part.refl _ _
theorem do_swap {w : World} {bk bw : Nat} {ws : List Int} (h : Words w bk bw ws) {i : Nat} {x : Int} {y : Int} (hi : ws[i]? = some x) (hy : U64 y) :
    Calls Try.prog 93 #[.pointer (some ⟨bk, 0, none⟩), .agg #[.int .u8 4, .int .i64 (i : Int), .int .u64 0, .int .u64 y]] w (Acted w bk bw (ws.set i y) (.tuple #[.agg #[.int .u8 4, .int .i64 (i : Int), .int .u64 x, .int .u64 y, .bool true], .int .i64 0])) := by
  have hl := lt_of_get hi
  have HI := Lib.hid hi
  have HW := Lib.hid h
  have hbw := h.row.lt
  clear h hi
  have HY := Lib.hid hy
  clear hy
  go_enter Try.func93, Try.ntmps93
  go_wp2_with (first
    | (go_at_call 96; refine (right_swap i y _).mono ?_; rintro e w1 ⟨rfl, hb1⟩; have HB1 := Lib.hid hb1; clear hb1; have HW1 := Lib.hid (HW.out.under HB1.out); have ra := Row.one HB1.out; have rd := Row.two HB1.out; obtain ⟨a0, a1, a2, a3⟩ := ra.four; have HD := Lib.hid rd; clear ra rd)
    | (go_at_call 53; refine (has_yes HW1.out hl).mono ?_; rintro e wx ⟨rfl, rfl⟩)
    | (go_at_call 97; refine (act_swap HW1.out HI.out HY.out).mono ?_; rintro e w2 ⟨rfl, hW2, hP2⟩; have HW2 := Lib.hid hW2; have HP2 := Lib.hid hP2; clear hW2 hP2; have hr2 := HD.out.part HP2.out (by simp; omega); obtain ⟨d0, d1, d2, d3, d4⟩ := hr2.five; have hf2 := hr2.free; clear hr2))
  refine bodyPost_ret (v := .tuple #[.agg #[.int .u8 4, .int .i64 (i : Int), .int .u64 x, .int .u64 y, .bool true], .int .i64 0]) (by simp [results, Try.results93, go_sem, d0, d1, d2, d3, d4]) rfl ⟨rfl, ?_⟩
  refine did_end HW.out HB1.out HW2.out HP2.out ?_
  repeat (refine Part.set ?_ (by simp) _)
  exact Part.refl _ _
theorem do_add {w : World} {bk bw : Nat} {ws : List Int} (h : Words w bk bw ws) {i : Nat} {x : Int} {y : Int} (hi : ws[i]? = some x) :
    Calls Try.prog 93 #[.pointer (some ⟨bk, 0, none⟩), .agg #[.int .u8 3, .int .i64 (i : Int), .int .u64 0, .int .u64 y]] w (Acted w bk bw (ws.set i (IntKind.u64.wrap (x + y))) (.tuple #[.agg #[.int .u8 3, .int .i64 (i : Int), .int .u64 x, .int .u64 (IntKind.u64.wrap (x + y)), .bool true], .int .i64 0])) := by
  have hl := lt_of_get hi
  have HI := Lib.hid hi
  have HW := Lib.hid h
  have hbw := h.row.lt
  clear h hi
  go_enter Try.func93, Try.ntmps93
  go_wp2_with (first
    | (go_at_call 96; refine (right_add i y _).mono ?_; rintro e w1 ⟨rfl, hb1⟩; have HB1 := Lib.hid hb1; clear hb1; have HW1 := Lib.hid (HW.out.under HB1.out); have ra := Row.one HB1.out; have rd := Row.two HB1.out; obtain ⟨a0, a1, a2, a3⟩ := ra.four; have HD := Lib.hid rd; clear ra rd)
    | (go_at_call 53; refine (has_yes HW1.out hl).mono ?_; rintro e wx ⟨rfl, rfl⟩)
    | (go_at_call 97; refine (act_add HW1.out HI.out).mono ?_; rintro e w2 ⟨rfl, hW2, hP2⟩; have HW2 := Lib.hid hW2; have HP2 := Lib.hid hP2; clear hW2 hP2; have hr2 := HD.out.part HP2.out (by simp; omega); obtain ⟨d0, d1, d2, d3, d4⟩ := hr2.five; have hf2 := hr2.free; clear hr2))
  refine bodyPost_ret (v := .tuple #[.agg #[.int .u8 3, .int .i64 (i : Int), .int .u64 x, .int .u64 (IntKind.u64.wrap (x + y)), .bool true], .int .i64 0]) (by simp [results, Try.results93, go_sem, d0, d1, d2, d3, d4]) rfl ⟨rfl, ?_⟩
  refine did_end HW.out HB1.out HW2.out HP2.out ?_
  repeat (refine Part.set ?_ (by simp) _)
  exact Part.refl _ _
theorem do_hit {w : World} {bk bw : Nat} {ws : List Int} (h : Words w bk bw ws) {i : Nat} {x : Int} {y : Int} (hi : ws[i]? = some x) (hy : U64 y) :
    Calls Try.prog 93 #[.pointer (some ⟨bk, 0, none⟩), .agg #[.int .u8 5, .int .i64 (i : Int), .int .u64 x, .int .u64 y]] w (Acted w bk bw (ws.set i y) (.tuple #[.agg #[.int .u8 5, .int .i64 (i : Int), .int .u64 x, .int .u64 y, .bool true], .int .i64 0])) := by
  have hl := lt_of_get hi
  have HI := Lib.hid hi
  have HW := Lib.hid h
  have hbw := h.row.lt
  clear h hi
  have HY := Lib.hid hy
  clear hy
  go_enter Try.func93, Try.ntmps93
  go_wp2_with (first
    | (go_at_call 96; refine (right_cas i x y _).mono ?_; rintro e w1 ⟨rfl, hb1⟩; have HB1 := Lib.hid hb1; clear hb1; have HW1 := Lib.hid (HW.out.under HB1.out); have ra := Row.one HB1.out; have rd := Row.two HB1.out; obtain ⟨a0, a1, a2, a3⟩ := ra.four; have HD := Lib.hid rd; clear ra rd)
    | (go_at_call 53; refine (has_yes HW1.out hl).mono ?_; rintro e wx ⟨rfl, rfl⟩)
    | (go_at_call 97; refine (act_hit HW1.out HI.out HY.out).mono ?_; rintro e w2 ⟨rfl, hW2, hP2⟩; have HW2 := Lib.hid hW2; have HP2 := Lib.hid hP2; clear hW2 hP2; have hr2 := HD.out.part HP2.out (by simp; omega); obtain ⟨d0, d1, d2, d3, d4⟩ := hr2.five; have hf2 := hr2.free; clear hr2))
  refine bodyPost_ret (v := .tuple #[.agg #[.int .u8 5, .int .i64 (i : Int), .int .u64 x, .int .u64 y, .bool true], .int .i64 0]) (by simp [results, Try.results93, go_sem, d0, d1, d2, d3, d4]) rfl ⟨rfl, ?_⟩
  refine did_end HW.out HB1.out HW2.out HP2.out ?_
  repeat (refine Part.set ?_ (by simp) _)
  exact Part.refl _ _
theorem do_miss {w : World} {bk bw : Nat} {ws : List Int} (h : Words w bk bw ws) {i : Nat} {x : Int} {o y : Int} (hi : ws[i]? = some x) (hne : ¬ x = o) :
    Calls Try.prog 93 #[.pointer (some ⟨bk, 0, none⟩), .agg #[.int .u8 5, .int .i64 (i : Int), .int .u64 o, .int .u64 y]] w (Acted w bk bw ws (.tuple #[.agg #[.int .u8 5, .int .i64 (i : Int), .int .u64 x, .int .u64 x, .bool false], .int .i64 0])) := by
  have hl := lt_of_get hi
  have HI := Lib.hid hi
  have HW := Lib.hid h
  have hbw := h.row.lt
  clear h hi
  have HN := Lib.hid hne
  clear hne
  go_enter Try.func93, Try.ntmps93
  go_wp2_with (first
    | (go_at_call 96; refine (right_cas i o y _).mono ?_; rintro e w1 ⟨rfl, hb1⟩; have HB1 := Lib.hid hb1; clear hb1; have HW1 := Lib.hid (HW.out.under HB1.out); have ra := Row.one HB1.out; have rd := Row.two HB1.out; obtain ⟨a0, a1, a2, a3⟩ := ra.four; have HD := Lib.hid rd; clear ra rd)
    | (go_at_call 53; refine (has_yes HW1.out hl).mono ?_; rintro e wx ⟨rfl, rfl⟩)
    | (go_at_call 97; refine (act_miss HW1.out HI.out HN.out).mono ?_; rintro e w2 ⟨rfl, hW2, hP2⟩; have HW2 := Lib.hid hW2; have HP2 := Lib.hid hP2; clear hW2 hP2; have hr2 := HD.out.part HP2.out (by simp; omega); obtain ⟨d0, d1, d2, d3, d4⟩ := hr2.five; have hf2 := hr2.free; clear hr2))
  refine bodyPost_ret (v := .tuple #[.agg #[.int .u8 5, .int .i64 (i : Int), .int .u64 x, .int .u64 x, .bool false], .int .i64 0]) (by simp [results, Try.results93, go_sem, d0, d1, d2, d3, d4]) rfl ⟨rfl, ?_⟩
  refine did_end HW.out HB1.out HW2.out HP2.out ?_
  repeat (refine Part.set ?_ (by simp) _)
  exact Part.refl _ _
end Go.Proofs.Ytiifhkfkcljoiaa
