/- THE WALKS of package snap: check, Put, Get, Scan. -/
import Derived.Test.YtdadgppbpomdoaaPb
namespace Go.Proofs.Ytdadgppbpomdoaa
open Go Go.RowKit

set_option maxRecDepth 100000
theorem rcheck_nil {w : World} {k r v t : Int} :
    Calls Try.prog 29 #[.pointer none, .agg #[.int .u8 k, .int .i64 r, .int .u32 v, .int .i64 t]] w fun e w' => e = .returned (.int .i64 1) ∧ Below w.heap.size w w' := by
  go_enter Try.func29, Try.ntmps29
  go_wp2
  go_ret
  exact ⟨rfl, (Below.refl _ _).alloc (Nat.le_refl _) _⟩
theorem rcheck_no {w : World} {br bk bw : Nat} {ws : List Int} {k r v t : Int} (h : Regs w br bk bw ws) (hr : rightS ws.length k r v t = false) :
    Calls Try.prog 29 #[.pointer (some ⟨br, 0, none⟩), .agg #[.int .u8 k, .int .i64 r, .int .u32 v, .int .i64 t]] w fun e w' => e = .returned (.int .i64 2) ∧ Below w.heap.size w w' := by
  have H := Lib.hid h
  have HR := Lib.hid hr
  clear h hr
  go_enter Try.func29, Try.ntmps29
  go_wp2_with (go_at_call 44; refine (rright_any (H.out.alloc _) k r v t).mono ?_; rw [HR.out]; rintro e w1 ⟨rfl, hb⟩; have HB := Lib.hid hb; clear hb)
  go_ret
  exact ⟨rfl, ((Part.refl [] w).alloc _ |>.on HB.out).end_⟩
theorem rcheck_yes {w : World} {br bk bw : Nat} {ws : List Int} {k r v t : Int} (h : Regs w br bk bw ws) (hr : rightS ws.length k r v t = true) :
    Calls Try.prog 29 #[.pointer (some ⟨br, 0, none⟩), .agg #[.int .u8 k, .int .i64 r, .int .u32 v, .int .i64 t]] w fun e w' => e = .returned (.int .i64 0) ∧ Below w.heap.size w w' := by
  have H := Lib.hid h
  have HR := Lib.hid hr
  clear h hr
  go_enter Try.func29, Try.ntmps29
  go_wp2_with (go_at_call 44; refine (rright_any (H.out.alloc _) k r v t).mono ?_; rw [HR.out]; rintro e w1 ⟨rfl, hb⟩; have HB := Lib.hid hb; clear hb)
  go_ret
  exact ⟨rfl, ((Part.refl [] w).alloc _ |>.on HB.out).end_⟩

theorem ccas_hit {w : World} {bk bw : Nat} {ws : List Int} (h : Words w bk bw ws) {i : Nat} {x y : Int} (hi : ws[i]? = some x) :
    Calls Try.prog 41 #[.pointer (some ⟨bk, 0, none⟩), .int .i64 (i : Int), .int .u64 x, .int .u64 y] w fun e w' => e = .returned (.bool true) ∧ w.setCell ⟨bw, i, none⟩ (.int .u64 y) = w' := by
  have hc := h.hc
  have hw := h.word hi
  have hz := h.row.free i
  have hl := lt_of_get hi
  have hn := h.few
  go_enter Try.func41, Try.ntmps41
  go_wp2_with (first
    | (go_at_call 54; refine (has_yes h hl).mono ?_; rintro e w' ⟨rfl, rfl⟩)
    | (go_at_call 55; refine (word_cas_hit hw hz).mono ?_; rintro e w' ⟨rfl, rfl⟩))
  go_ret
  exact ⟨rfl, rfl⟩

/-- no register -/
def noReg : Value := .agg #[.int .u32 0, .int .u32 0]
theorem rput_nil {w : World} {r v : Int} :
    Calls Try.prog 22 #[.pointer none, .int .i64 r, .int .u32 v] w fun e w' => e = .returned (.tuple #[noReg, .int .i64 1]) ∧ Below w.heap.size w w' := by
  go_enter Try.func22, Try.ntmps22
  go_wp2_with (go_at_call 29; refine rcheck_nil.mono ?_; rintro e w1 ⟨rfl, hb⟩; have HB := Lib.hid hb; have hr : Row w1 w.heap.size 60 [.int .u32 0, .int .u32 0] := (Row.new w _ _).below hb (by simp); have c0 := hr.cell 0; have c1 := hr.cell 1; have cf := hr.free; clear hb hr)
  refine bodyPost_ret (v := .tuple #[noReg, .int .i64 1]) (by simp [results, Try.results22, go_sem, noReg, c0, c1]) rfl ⟨rfl, ?_⟩
  refine Part.end_ ?_
  repeat (refine Part.set ?_ (by simp) _)
  exact (Part.refl [] w).alloc _ |>.on HB.out
theorem rput_no {w : World} {br bk bw : Nat} {ws : List Int} {r v : Int} (h : Regs w br bk bw ws) (hr : rightS ws.length 1 r v 0 = false) :
    Calls Try.prog 22 #[.pointer (some ⟨br, 0, none⟩), .int .i64 r, .int .u32 v] w fun e w' => e = .returned (.tuple #[noReg, .int .i64 2]) ∧ Below w.heap.size w w' := by
  have H := Lib.hid h
  have HR := Lib.hid hr
  clear h hr
  go_enter Try.func22, Try.ntmps22
  go_wp2_with (go_at_call 29; refine (rcheck_no (H.out.alloc _) HR.out).mono ?_; rintro e w1 ⟨rfl, hb⟩; have HB := Lib.hid hb; have hr : Row w1 w.heap.size 60 [.int .u32 0, .int .u32 0] := (Row.new w _ _).below hb (by simp); have c0 := hr.cell 0; have c1 := hr.cell 1; have cf := hr.free; clear hb hr)
  refine bodyPost_ret (v := .tuple #[noReg, .int .i64 2]) (by simp [results, Try.results22, go_sem, noReg, c0, c1]) rfl ⟨rfl, ?_⟩
  refine Part.end_ ?_
  repeat (refine Part.set ?_ (by simp) _)
  exact (Part.refl [] w).alloc _ |>.on HB.out
/-- what a Put leaves -/
def PutTo (w : World) (br bk bw : Nat) (ws : List Int) (v : Value) (e : Ending) (w' : World) : Prop := e = .returned v ∧ Regs w' br bk bw ws ∧ Part [bw] w w'
theorem rput_any {w : World} {br bk bw : Nat} {ws : List Int} (h : Regs w br bk bw ws) {i : Nat} {x v : Int} (hi : ws[i]? = some x) (hv : U32 v) :
    Calls Try.prog 22 #[.pointer (some ⟨br, 0, none⟩), .int .i64 (i : Int), .int .u32 v] w (PutTo w br bk bw (ws.set i (afterW x v)) (.tuple #[regV (afterW x v), .int .i64 0])) := by
  have hil := lt_of_get hi
  have HR : Hid (rightS ws.length 1 (i : Int) v 0 = true) := Lib.hid (by simp [rightS]; omega)
  have H := Lib.hid h
  have HI := Lib.hid hi
  have HV := Lib.hid hv
  have HX := Lib.hid (h.words.u64 hi)
  have HA : Hid (U64 (afterW x v)) := Lib.hid (afterW_u64 hv)
  have hbw := h.words.row.lt
  have hbr := h.head.lt
  have n1 : ¬ bw = w.heap.size := by omega
  have n2 : ¬ w.heap.size = bw := by omega
  clear h hi hv
  go_enter Try.func22, Try.ntmps22
  go_wp2_with (go_at_call 29; refine (rcheck_yes (H.out.alloc _) HR.out).mono ?_; rintro e w1 ⟨rfl, hb⟩; have HB1 := Lib.hid hb; have HW1 := Lib.hid ((H.out.alloc _).on hb); have HC1 : Hid (Row w1 w.heap.size 60 [.int .u32 0, .int .u32 0]) := Lib.hid ((Row.new w _ _).below hb (by simp)); have hc1 := HW1.out.hc; clear hb)
  refine wp_loop_rounds 1 ?_
  rw [rounds_succ]
  go_wp2_with (first
    | (go_at_call 39; refine (load_any HW1.out.words HI.out).mono ?_; rintro e wx ⟨rfl, rfl⟩)
    | (go_at_call 40; refine (after_any HX.out HV.out _).mono ?_; rintro e w2 ⟨rfl, hb⟩; have HB2 := Lib.hid hb; have HW2 := Lib.hid (HW1.out.on hb); have HC2 := Lib.hid (HC1.out.below hb HC1.out.lt); have hc2 := HW2.out.hc; clear hb)
    | (go_at_call 41; refine (ccas_hit HW2.out.words HI.out).mono ?_; rintro e wx ⟨rfl, rfl⟩)
    | (go_at_call 42; refine (regof_any HA.out _).mono ?_; unfold regV; rintro e w3 ⟨rfl, hb⟩; have HB3 := Lib.hid hb; have HW3 := Lib.hid ((HW2.out.set i HA.out).on hb); have HC3 := Lib.hid ((HC2.out.far (p := ⟨bw, i, none⟩) n1 (.int .u64 (afterW x v))).below hb (by simpa using HC2.out.lt)); have c0 := HC3.out.cell 0; have c1 := HC3.out.cell 1; have cf := HC3.out.free; clear hb))
  refine bodyPost_ret (v := .tuple #[regV (afterW x v), .int .i64 0]) (by simp [results, Try.results22, go_sem, regV, c0, c1]) rfl ⟨rfl, ?_⟩
  have hP3 : Part [bw] w w3 := ((((Part.refl [bw] w).alloc _).on HB1.out).on HB2.out |>.set (p := ⟨bw, i, none⟩) (by simp) _).on HB3.out
  have hE : Part [w.heap.size] w3 ((w3.setCell ⟨w.heap.size, 0, none⟩ (.int .u32 (numW (afterW x v)))).setCell ⟨w.heap.size, 1, none⟩ (.int .u32 (valW (afterW x v)))) := by
    repeat (refine Part.set ?_ (by simp) _)
    exact Part.refl _ _
  exact ⟨HW3.out.part hE (by simp; omega) (by have := HW2.out.words.head.ne HC2.out (by decide); simpa using this) (by simpa using n1), hP3.trans hE (fun q hq hm => by simp at hm; omega)⟩
theorem rget_nil {w : World} {r : Int} :
    Calls Try.prog 23 #[.pointer none, .int .i64 r] w fun e w' => e = .returned (.tuple #[noReg, .int .i64 1]) ∧ Below w.heap.size w w' := by
  go_enter Try.func23, Try.ntmps23
  go_wp2_with (go_at_call 29; refine rcheck_nil.mono ?_; rintro e w1 ⟨rfl, hb⟩; have HB := Lib.hid hb; have hr : Row w1 w.heap.size 60 [.int .u32 0, .int .u32 0] := (Row.new w _ _).below hb (by simp); have c0 := hr.cell 0; have c1 := hr.cell 1; have cf := hr.free; clear hb hr)
  refine bodyPost_ret (v := .tuple #[noReg, .int .i64 1]) (by simp [results, Try.results23, go_sem, noReg, c0, c1]) rfl ⟨rfl, ?_⟩
  refine Part.end_ ?_
  repeat (refine Part.set ?_ (by simp) _)
  exact (Part.refl [] w).alloc _ |>.on HB.out
theorem rget_no {w : World} {br bk bw : Nat} {ws : List Int} {r : Int} (h : Regs w br bk bw ws) (hr : rightS ws.length 2 r 0 0 = false) :
    Calls Try.prog 23 #[.pointer (some ⟨br, 0, none⟩), .int .i64 r] w fun e w' => e = .returned (.tuple #[noReg, .int .i64 2]) ∧ Below w.heap.size w w' := by
  have H := Lib.hid h
  have HR := Lib.hid hr
  clear h hr
  go_enter Try.func23, Try.ntmps23
  go_wp2_with (go_at_call 29; refine (rcheck_no (H.out.alloc _) HR.out).mono ?_; rintro e w1 ⟨rfl, hb⟩; have HB := Lib.hid hb; have hr : Row w1 w.heap.size 60 [.int .u32 0, .int .u32 0] := (Row.new w _ _).below hb (by simp); have c0 := hr.cell 0; have c1 := hr.cell 1; have cf := hr.free; clear hb hr)
  refine bodyPost_ret (v := .tuple #[noReg, .int .i64 2]) (by simp [results, Try.results23, go_sem, noReg, c0, c1]) rfl ⟨rfl, ?_⟩
  refine Part.end_ ?_
  repeat (refine Part.set ?_ (by simp) _)
  exact (Part.refl [] w).alloc _ |>.on HB.out
theorem rget_any {w : World} {br bk bw : Nat} {ws : List Int} (h : Regs w br bk bw ws) {i : Nat} {x : Int} (hi : ws[i]? = some x) :
    Calls Try.prog 23 #[.pointer (some ⟨br, 0, none⟩), .int .i64 (i : Int)] w fun e w' => e = .returned (.tuple #[regV x, .int .i64 0]) ∧ Below w.heap.size w w' := by
  have hil := lt_of_get hi
  have HR : Hid (rightS ws.length 2 (i : Int) 0 0 = true) := Lib.hid (by simp [rightS]; omega)
  have H := Lib.hid h
  have HI := Lib.hid hi
  have HX := Lib.hid (h.words.u64 hi)
  clear h hi
  go_enter Try.func23, Try.ntmps23
  go_wp2_with (first
    | (go_at_call 29; refine (rcheck_yes (H.out.alloc _) HR.out).mono ?_; rintro e w1 ⟨rfl, hb⟩; have HB1 := Lib.hid hb; have HW1 := Lib.hid ((H.out.alloc _).on hb); have HC1 : Hid (Row w1 w.heap.size 60 [.int .u32 0, .int .u32 0]) := Lib.hid ((Row.new w _ _).below hb (by simp)); have hc1 := HW1.out.hc; clear hb)
    | (go_at_call 39; refine (load_any HW1.out.words HI.out).mono ?_; rintro e wx ⟨rfl, rfl⟩)
    | (go_at_call 42; refine (regof_any HX.out _).mono ?_; unfold regV; rintro e w3 ⟨rfl, hb⟩; have HB3 := Lib.hid hb; have HC3 := Lib.hid (HC1.out.below hb HC1.out.lt); have c0 := HC3.out.cell 0; have c1 := HC3.out.cell 1; have cf := HC3.out.free; clear hb))
  refine bodyPost_ret (v := .tuple #[regV x, .int .i64 0]) (by simp [results, Try.results23, go_sem, regV, c0, c1]) rfl ⟨rfl, ?_⟩
  refine Part.end_ ?_
  repeat (refine Part.set ?_ (by simp) _)
  exact ((Part.refl [] w).alloc _ |>.on HB1.out).on HB3.out
end Go.Proofs.Ytdadgppbpomdoaa
