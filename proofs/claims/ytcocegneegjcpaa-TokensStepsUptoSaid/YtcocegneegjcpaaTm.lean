/- THE WALKS of package tokens: Take, Peek; the statements' own question 'begins'; the law 'TokensNil'. -/
import Derived.Test.YtcocegneegjcpaaTl
import Derived.Laws.StructEq
namespace Go.Proofs.Ytcocegneegjcpaa
open Go Go.RowKit

def waitT (ev bu T t n : Int) : Int := if takeB ev bu T t n then 0 else stopV ev bu T t n
theorem WholeT.of_eq {w w' : World} {bt bk bw : Nat} {ev bu T T' : Int} {v v' : Value} {e : Ending} (h : WholeT w bt bk bw ev bu T v e w') (hT : T = T') (hv : v = v') : WholeT w bt bk bw ev bu T' v' e w' := by subst hT; subst hv; exact h
theorem tdo_take {w : World} {bt bk bw : Nat} {ev bu T t n : Int} (h : Buck w bt bk bw ev bu T) (hr : RightT 1 t n) :
    Calls Try.prog 90 #[.pointer (some ⟨bt, 0, none⟩), .agg #[.int .u8 1, .int .i64 t, .int .i64 n]] w
      (WholeT w bt bk bw ev bu (takeW ev bu T t n) (.tuple #[.agg #[.bool (takeB ev bu T t n), .int .i64 (waitT ev bu T t n), .int .i64 0], .int .i64 0])) := by
  by_cases hg : max T t + n * ev ≤ t + bu * ev
  · exact (tdo_two h hr (by simp [stepO, newO, hg]) (by simp [stepO, stepW, newO, hg])).mono fun e w' hs => hs.of_eq (by simp [stepW, stepO, newO, hg, takeW, takeB]) (by simp [stepO, stepW, newO, hg, takeB, waitT])
  · exact (tdo_one h hr (by simp [stepO, newO, hg])).mono fun e w' hs => hs.of_eq (by simp [stepW, newO, hg, takeW, takeB]) (by by_cases hn : bu < n <;> simp [stepO, newO, hg, hn, takeB, waitT, stopV])
theorem tdo_peek {w : World} {bt bk bw : Nat} {ev bu T t : Int} (h : Buck w bt bk bw ev bu T) (hr : RightT 2 t 0) :
    Calls Try.prog 90 #[.pointer (some ⟨bt, 0, none⟩), .agg #[.int .u8 2, .int .i64 t, .int .i64 0]] w
      (WholeT w bt bk bw ev bu T (.tuple #[.agg #[.bool false, .int .i64 0, .int .i64 (roomV ev bu T t / ev)], .int .i64 0])) :=
  (tdo_one h hr (by simp [stepO, newO])).mono fun e w' hs => hs.of_eq (by simp [stepW, newO]) (by simp [stepO, newO])

theorem whole_box {w w2 wf : World} {bt bk bw : Nat} {ev bu T T' : Int} {o : Obj} (h : Buck w bt bk bw ev bu T) (hB : Buck w2 bt bk bw ev bu T') (hP : Part [bw] (w.alloc o) w2) (hE : Part [w.heap.size] w2 wf) : Buck wf bt bk bw ev bu T' ∧ Part [bw] w wf := by
  have g1 := h.head.lt
  have g2 := h.words.head.lt
  have g3 := h.words.row.lt
  refine ⟨hB.part hE (by simp; omega) (by simp; omega) (by simp; omega), Part.trans (S' := [w.heap.size]) (Part.trans (S' := [bw]) ((Part.refl [bw] w).alloc o) hP (fun q hq hm => hm)) hE (fun q hq hm => ?_)⟩
  simp at hm ⊢; omega
set_option maxRecDepth 100000
set_option maxHeartbeats 1600000
theorem ttake_yes {w : World} {bt bk bw : Nat} {ev bu T t n : Int} (h : Buck w bt bk bw ev bu T) (hr : RightT 1 t n) :
    Calls Try.prog 73 #[.pointer (some ⟨bt, 0, none⟩), .int .i64 t, .int .i64 n] w
      (WholeT w bt bk bw ev bu (takeW ev bu T t n) (.tuple #[.agg #[.bool (takeB ev bu T t n), .int .i64 (waitT ev bu T t n), .int .i64 0], .int .i64 0])) := by
  have H := Lib.hid h
  have HR := Lib.hid hr
  have hbw := h.words.row.lt
  clear h hr
  go_enter Try.func73, Try.ntmps73
  go_wp2_with (go_at_call 90; refine (tdo_take (H.out.alloc _) HR.out).mono ?_; rintro e w2 ⟨rfl, hB, hP⟩; have HB := Lib.hid hB; have HP := Lib.hid hP; have hz : Row w2 w.heap.size 100 [.bool false, .int .i64 0, .int .i64 0] := (Row.new w _ _).part hP (by simp; omega); have z0 := hz.cell 0; have z1 := hz.cell 1; have z2 := hz.cell 2; have zf := hz.free; have zlt := hz.lt; clear hB hP hz)
  refine bodyPost_ret (v := .tuple #[.agg #[.bool (takeB ev bu T t n), .int .i64 (waitT ev bu T t n), .int .i64 0], .int .i64 0]) (by simp [results, Try.results73, go_sem, z0, z1, z2]) rfl ⟨rfl, ?_⟩
  refine whole_box H.out HB.out HP.out ?_
  repeat (first | (with_reducible exact Part.refl _ _) | refine Part.set ?_ (by simp) _)
theorem ttake_no {w : World} {a : Addr} {t n : Int} (h : trightB 1 t n = false) :
    Calls Try.prog 73 #[.pointer (some a), .int .i64 t, .int .i64 n] w fun e w' => e = .returned (.tuple #[zeroV, .int .i64 2]) ∧ Below w.heap.size w w' := by
  have H := Lib.hid h
  clear h
  go_enter Try.func73, Try.ntmps73
  go_wp2_with (go_at_call 90; refine (tdo_no H.out).mono ?_; unfold zeroV; rintro e w2 ⟨rfl, hb⟩; have HB := Lib.hid hb; have hz : Row w2 w.heap.size 100 [.bool false, .int .i64 0, .int .i64 0] := (Row.new w _ _).below hb (by simp); have z0 := hz.cell 0; have z1 := hz.cell 1; have z2 := hz.cell 2; have zf := hz.free; have zlt := hz.lt; clear hb hz)
  refine bodyPost_ret (v := .tuple #[zeroV, .int .i64 2]) (by simp [results, Try.results73, go_sem, zeroV, z0, z1, z2]) rfl ⟨rfl, ?_⟩
  repeat (first | (with_reducible exact Below.refl _ _) | refine Below.setCell ?_ (by simp) _)
  exact (((Part.refl [] w).alloc _).on HB.out).end_
theorem ttake_nil (t n : Int) (w : World) :
    Calls Try.prog 73 #[.pointer none, .int .i64 t, .int .i64 n] w fun e w' => e = .returned (.tuple #[zeroV, .int .i64 1]) ∧ Below w.heap.size w w' := by
  go_enter Try.func73, Try.ntmps73
  go_wp2_with (go_at_call 90; refine (tdo_nil _ _ _ _).mono ?_; unfold zeroV; rintro e w2 ⟨rfl, hb⟩; have HB := Lib.hid hb; have hz : Row w2 w.heap.size 100 [.bool false, .int .i64 0, .int .i64 0] := (Row.new w _ _).below hb (by simp); have z0 := hz.cell 0; have z1 := hz.cell 1; have z2 := hz.cell 2; have zf := hz.free; have zlt := hz.lt; clear hb hz)
  refine bodyPost_ret (v := .tuple #[zeroV, .int .i64 1]) (by simp [results, Try.results73, go_sem, zeroV, z0, z1, z2]) rfl ⟨rfl, ?_⟩
  repeat (first | (with_reducible exact Below.refl _ _) | refine Below.setCell ?_ (by simp) _)
  exact (((Part.refl [] w).alloc _).on HB.out).end_
theorem tpeek_yes {w : World} {bt bk bw : Nat} {ev bu T t : Int} (h : Buck w bt bk bw ev bu T) (hr : RightT 2 t 0) :
    Calls Try.prog 74 #[.pointer (some ⟨bt, 0, none⟩), .int .i64 t] w
      (WholeT w bt bk bw ev bu T (.tuple #[.int .i64 (roomV ev bu T t / ev), .int .i64 0])) := by
  have H := Lib.hid h
  have HR := Lib.hid hr
  clear h hr
  go_enter Try.func74, Try.ntmps74
  go_wp2_with (go_at_call 90; refine (tdo_peek H.out HR.out).mono ?_; rintro e w2 ⟨rfl, hB, hP⟩; have HB := Lib.hid hB; have HP := Lib.hid hP; clear hB hP)
  go_ret2
  exact ⟨rfl, HB.out.alloc _, HP.out.alloc _⟩
theorem tpeek_no {w : World} {a : Addr} {t : Int} (h : trightB 2 t 0 = false) :
    Calls Try.prog 74 #[.pointer (some a), .int .i64 t] w fun e w' => e = .returned (.tuple #[.int .i64 0, .int .i64 2]) ∧ Below w.heap.size w w' := by
  have H := Lib.hid h
  clear h
  go_enter Try.func74, Try.ntmps74
  go_wp2_with (go_at_call 90; refine (tdo_no H.out).mono ?_; unfold zeroV; rintro e w2 ⟨rfl, hb⟩; have HB := Lib.hid hb; clear hb)
  go_ret2
  exact ⟨rfl, (((Part.refl [] w).on HB.out).alloc _).end_⟩
theorem tpeek_nil (t : Int) (w : World) :
    Calls Try.prog 74 #[.pointer none, .int .i64 t] w fun e w' => e = .returned (.tuple #[.int .i64 0, .int .i64 1]) ∧ Below w.heap.size w w' := by
  go_enter Try.func74, Try.ntmps74
  go_wp2_with (go_at_call 90; refine (tdo_nil _ _ _ _).mono ?_; unfold zeroV; rintro e w2 ⟨rfl, hb⟩; have HB := Lib.hid hb; clear hb)
  go_ret2
  exact ⟨rfl, (((Part.refl [] w).on HB.out).alloc _).end_⟩

/-- 'begins', call by call -/
theorem tb_new (w : World) : Calls Try.prog 38 #[.int .i64 10, .int .i64 3] w (FreshB w 10 3) := tnew_yes w (by decide)
theorem tb_take {w : World} {bt bk bw : Nat} (h : Buck w bt bk bw 10 3 0) :
    Calls Try.prog 73 #[.pointer (some ⟨bt, 0, none⟩), .int .i64 0, .int .i64 3] w (WholeT w bt bk bw 10 3 30 (.tuple #[.agg #[.bool true, .int .i64 0, .int .i64 0], .int .i64 0])) :=
  ttake_yes h (by unfold RightT; omega)
theorem tb_stop {w : World} {bt bk bw : Nat} (h : Buck w bt bk bw 10 3 30) :
    Calls Try.prog 73 #[.pointer (some ⟨bt, 0, none⟩), .int .i64 0, .int .i64 1] w (WholeT w bt bk bw 10 3 30 (.tuple #[.agg #[.bool false, .int .i64 10, .int .i64 0], .int .i64 0])) :=
  ttake_yes h (by unfold RightT; omega)
theorem tb_peek {w : World} {bt bk bw : Nat} (h : Buck w bt bk bw 10 3 30) :
    Calls Try.prog 74 #[.pointer (some ⟨bt, 0, none⟩), .int .i64 15] w (WholeT w bt bk bw 10 3 30 (.tuple #[.int .i64 1, .int .i64 0])) :=
  tpeek_yes h (by unfold RightT; omega)
set_option maxHeartbeats 3200000 in
theorem tbegins_any (w : World) : Calls Try.prog 40 #[] w fun e w' => e = .returned (.bool true) ∧ Below w.heap.size w w' := by
  go_enter Try.func40, Try.ntmps40
  go_wp2_with (first
    | (go_at_call 38; refine (tb_new _).mono ?_; rintro e w1 ⟨bt, bk, bw, rfl, hc, hk, hw, hS, hb⟩; have HC := Lib.hid hc; have HK := Lib.hid hk; have HW := Lib.hid hw; have HS := Lib.hid hS; have HB := Lib.hid hb; clear hc hk hw hS hb)
    | (go_at_call 73; (with_reducible refine (tb_take HS.out).mono ?_); rintro e w2 ⟨rfl, hS2, hP2⟩; have HS2 := Lib.hid hS2; have HP2 := Lib.hid hP2; clear hS2 hP2)
    | (go_at_call 73; (with_reducible refine (tb_stop (HS2.out.alloc _)).mono ?_); rintro e w3 ⟨rfl, hS3, hP3⟩; have HS3 := Lib.hid hS3; have HP3 := Lib.hid hP3; clear hS3 hP3)
    | (go_at_call 74; (with_reducible refine (tb_peek (HS3.out.alloc _)).mono ?_); rintro e w4 ⟨rfl, hS4, hP4⟩; have HS4 := Lib.hid hS4; have HP4 := Lib.hid hP4; have hz3 : Row w4 w3.heap.size 100 [.bool false, .int .i64 10, .int .i64 0] := (Row.new w3 _ _).part hP4 (by have := HS3.out.words.row.lt; simp; omega); have hz2 : Row w4 w2.heap.size 100 [.bool true, .int .i64 0, .int .i64 0] := (((Row.new w2 _ _).part HP3.out (by have := HS2.out.words.row.lt; simp; omega)).alloc _).part hP4 (by have := HS2.out.words.row.lt; simp; omega); have z0 := hz2.cell 0; have z1 := hz2.cell 1; have z2 := hz2.cell 2; have y0 := hz3.cell 0; have y1 := hz3.cell 1; have y2 := hz3.cell 2; clear hS4 hP4 hz2 hz3))
  go_ret
  refine ⟨rfl, HB.out.trans ((((HP2.out.alloc _).then_ HP3.out).alloc _).then_ HP4.out |>.below (B := w.heap.size) HB.out.size (by have := HW.out; simpa using this))⟩

end Go.Proofs.Ytcocegneegjcpaa
