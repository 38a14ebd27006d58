/- THE WALKS of package tokens: load. -/
import Derived.Test.YtcocegneegjcpaaTc
namespace Go.Proofs.Ytcocegneegjcpaa
open Go Go.RowKit

theorem quiet_behind {P : Program} {f : FuncId} {args : Array Value} {w : World} {a n : Nat} {v : Value} (h : Calls P f args (w.drewN (a + n)) fun e w' => e = .returned v ∧ w.drewN (a + n) = w') :
    Calls P f args (w.drewN (a + n)) fun e w'' => e = .returned v ∧ ∃ m, w'' = w.drewN (a + m) := h.mono fun _ _ h' => ⟨h'.1, n, h'.2.symm⟩
theorem Words.drewN {w : World} {bk bw : Nat} {ws : List Int} (h : Words w bk bw ws) (n : Nat) : Words (w.drewN n) bk bw ws := ⟨h.head, h.row, h.few, h.ok⟩

def noDid : List Value := [.int .u8 0, .int .i64 0, .int .u64 0, .int .u64 0, .bool false]
/-- what a step's function leaves -/
def SteppedT (w : World) (bk bw bp : Nat) (T : Int) (l : List Value) (v : Value) (e : Ending) (w' : World) : Prop := e = .returned v ∧ Words w' bk bw [T] ∧ Row w' bp 140 l ∧ Part [bw, bp] w w'

theorem tdo_load {w : World} {bk bw : Nat} {T : Int} (h : Words w bk bw [T]) :
    Calls Try.prog 81 #[.pointer (some ⟨bk, 0, none⟩), .agg #[.int .u8 1, .int .i64 0, .int .u64 0, .int .u64 0]] w (Acted w bk bw [T] (.tuple #[.agg #[.int .u8 1, .int .i64 0, .int .u64 T, .int .u64 T, .bool true], .int .i64 0])) := do_load h (i := 0) rfl
theorem tdo_hit {w : World} {bk bw : Nat} {T y : Int} (h : Words w bk bw [T]) (hy : U64 y) :
    Calls Try.prog 81 #[.pointer (some ⟨bk, 0, none⟩), .agg #[.int .u8 5, .int .i64 0, .int .u64 T, .int .u64 y]] w (Acted w bk bw [y] (.tuple #[.agg #[.int .u8 5, .int .i64 0, .int .u64 T, .int .u64 y, .bool true], .int .i64 0])) := do_hit h (i := 0) rfl hy
theorem tdo_miss {w : World} {bk bw : Nat} {T o y : Int} (h : Words w bk bw [T]) (hne : ¬ T = o) :
    Calls Try.prog 81 #[.pointer (some ⟨bk, 0, none⟩), .agg #[.int .u8 5, .int .i64 0, .int .u64 o, .int .u64 y]] w (Acted w bk bw [T] (.tuple #[.agg #[.int .u8 5, .int .i64 0, .int .u64 T, .int .u64 T, .bool false], .int .i64 0])) := do_miss h (i := 0) rfl hne

/-- behind the action: what it did lies in a block of its own -/
structure MidT (w : World) (bt bk bw bp : Nat) (ev bu T : Int) (l did : List Value) (wx : World) : Prop where
  buck : Buck wx bt bk bw ev bu T
  pend : Row wx bp 140 l
  res : Row wx w.heap.size 45 noDid
  part : Part [bw] w wx
theorem mid_t {w w2 : World} {bt bk bw bp : Nat} {ev bu T T' : Int} {l : List Value} (h : Buck w bt bk bw ev bu T) (hp : Row w bp 140 l) (hW : Words w2 bk bw [T']) (h0 : 0 ≤ T') (h1 : T' ≤ 3458764513820540928)
    (hP : Part [bw] (w.alloc (.cells noDid.toArray 45)) w2) : MidT w bt bk bw bp ev bu T' l noDid w2 := by
  have hn : bp ∉ [bw] := by simpa using hp.ne h.words.row (by decide)
  have hb := h.words.row.lt
  have h0' : w.heap.size ∉ [bw] := by simp; omega
  exact ⟨(h.alloc _).next hP hW (by simpa using h.ne) h0 h1, Row.part (hp.alloc _) hP hn, Row.part (Row.new w _ _) hP h0', Part.trans (S' := [bw]) ((Part.refl [bw] w).alloc _) hP (by simp)⟩

theorem mid_fin {w wx wf : World} {bt bk bw bp : Nat} {ev bu T T' : Int} {l l' l'' did : List Value} (hM : MidT w bt bk bw bp ev bu T l did wx) (h : Words w bk bw [T']) (hE : Part [bp, w.heap.size] wx wf) (hr : Row wf bp 140 l') (he : l' = l'') :
    Words wf bk bw [T] ∧ Row wf bp 140 l'' ∧ Part [bw, bp] w wf := by
  have h1 := h.head.lt
  have h2 := h.row.lt
  have h3 : bk ≠ bp := hM.buck.words.head.ne hM.pend (by decide)
  have h4 : bw ≠ bp := hM.buck.words.row.ne hM.pend (by decide)
  refine ⟨hM.buck.words.part hE (by simp [h3]; omega) (by simp [h4]; omega), he ▸ hr, ?_⟩
  refine Part.trans (S' := [bp, w.heap.size]) (hM.part.mono (S' := [bw, bp]) (fun q _ hm => by simp at hm; simp [hm])) hE (fun q hq hm => ?_)
  simp at hm ⊢
  omega
/-- behind 'end', too -/
theorem mid_fin2 {w wx w4 wf : World} {bt bk bw bp k : Nat} {ev bu T T' : Int} {l l' did : List Value} {o : Obj} (hM : MidT w bt bk bw bp ev bu T l did wx) (h : Words w bk bw [T']) (hR : Row w4 bp 140 l') (hP : Part [bp] ((wx.alloc o).drewN k) w4) (hE : Part [w.heap.size] w4 wf) :
    Words wf bk bw [T] ∧ Row wf bp 140 l' ∧ Part [bw, bp] w wf := by
  have hb := hM.res.lt
  have hbp : bp ≠ w.heap.size := fun e => by
    subst e
    exact absurd rfl (hM.pend.ne hM.res (by decide))
  have hE2 : Part [bp, w.heap.size] wx wf := by
    refine Part.trans (S' := [w.heap.size]) (Part.trans (S' := [bp]) (((Part.refl [bp, w.heap.size] wx).alloc o).drewN k) hP (fun q _ hm => by simp at hm ⊢; omega)) hE (fun q _ hm => by simp at hm ⊢; omega)
  exact mid_fin hM h hE2 (hR.part hE (by simpa using hbp)) rfl
theorem tspent_at {w : World} {bp bt : Nat} {t n saw put wait left T m : Int} {nx : Value} {ok : Bool} (h : Row w bp 140 (pendT bt t n saw put nx ok wait left)) (h0 : 0 ≤ T) (h1 : T ≤ 3458764513820540928) (hm : max T t = m) :
    Calls Try.prog 92 #[.pointer (some ⟨bp, 0, none⟩), .int .u64 T] w fun e w' => e = .returned (.int .i64 m) ∧ w' = w := by
  subst hm
  exact (tspent_any h h0 h1).mono fun _ _ ⟨a, b⟩ => ⟨a, b.symm⟩
theorem tlimit_at {w : World} {bt bk bw : Nat} {ev bu T D : Int} (h : Buck w bt bk bw ev bu T) {t : Int} (h0 : 0 ≤ t) (h1 : t ≤ 2305843009213693952) (hD : bu * ev = D) :
    Calls Try.prog 93 #[.pointer (some ⟨bt, 0, none⟩), .int .i64 t] w fun e w' => e = .returned (.int .i64 (t + D)) ∧ ∃ n, w' = w.drewN n := by
  subst hD
  exact tlimit_any h h0 h1

set_option maxHeartbeats 1600000
set_option maxRecDepth 100000
theorem fload_go {w : World} {bt bk bw bp : Nat} {ev bu T t n saw put wait left m P D : Int} {nx : Value} {ok : Bool} (h : Buck w bt bk bw ev bu T) (hp : Row w bp 140 (pendT bt t n saw put nx ok wait left))
    (ht : 0 ≤ t) (ht' : t ≤ 2305843009213693952) (hm : max T t = m) (hP : n * ev = P) (hP0 : 0 ≤ P) (hP1 : P ≤ 1152921504606846976) (hD : bu * ev = D) (hg : m + P ≤ t + D) :
    Calls Try.prog 76 #[.pointer (some ⟨bp, 0, none⟩)] w (SteppedT w bk bw bp T (pendT bt t n T (m + P) (fnV 95) ok wait left) (.agg #[.int .u8 1, .int .i64 0, .int .u64 T, .int .u64 T, .bool true])) := by
  obtain ⟨c0, c1, c2, c3, c4, c5, c6, c7, c8⟩ := pendT_cells hp
  obtain ⟨k0, k1, k2⟩ := h.cells
  obtain ⟨d0, d1⟩ := h.depth
  have l0 := h.lo
  have l1 := h.hi
  have m0 : 0 ≤ m := by omega
  have m1 : m ≤ 3458764513820540928 := by omega
  have hf := hp.free
  have hbp := hp.lt
  have hbt := h.head.lt
  have hbw := h.words.row.lt
  rw [hD] at d0 d1
  have e5 : ¬ bp = w.heap.size := by omega
  have e6 : ¬ w.heap.size = bp := by omega
  have H := Lib.hid h
  have HP := Lib.hid hp
  have HM := Lib.hid hm
  have HD := Lib.hid hD
  clear h hp hm hD
  go_enter Try.func76, Try.ntmps76
  go_wp2_with (go_at_call 81; refine (tdo_load (H.out.alloc _).words).mono ?_; rintro e w2 ⟨rfl, hW2, hP2⟩; have HX := Lib.hid (mid_t H.out HP.out hW2 l0 l1 hP2); clear hW2 hP2; have HX0 := HX.out.res; unfold noDid at HX0; obtain ⟨b0, b1, b2, b3, b4⟩ := HX0.five; have bf := HX0.free; have blt := HX0.lt; clear HX0; obtain ⟨p0, p1, p2, p3, p4, p5, p6, p7, p8⟩ := pendT_cells HX.out.pend; have pf := HX.out.pend.free; have plt := HX.out.pend.lt; obtain ⟨u0, u1, u2⟩ := HX.out.buck.cells; have ult := HX.out.buck.head.lt)
  go_quiet ((go_at_call 92; exact Calls.quiet_of_same (tspent_at ((HX.out.pend.alloc _).drewN _) l0 l1 HM.out)))
  go_wp2_with (go_at_call 93; refine (tlimit_at ((HX.out.buck.alloc _).drewN _) ht ht' HD.out).mono ?_; rintro e w3 ⟨rfl, n3, rfl⟩)
  refine bodyPost_ret (v := .agg #[.int .u8 1, .int .i64 0, .int .u64 T, .int .u64 T, .bool true]) (by simp [results, Try.results76, go_sem, b0, b1, b2, b3, b4, blt]) rfl ⟨rfl, ?_⟩
  refine mid_fin HX.out H.out.words (l' := (((pendT bt t n saw put nx ok wait left).set 3 (.int .u64 T)).set 4 (.int .u64 (m + P))).set 5 (.func (.func 95) #[] #[])) ?_ ?_ (by simp [pendT, fnV])
  · repeat (first | (with_reducible exact Part.refl _ _) | (with_reducible refine Part.drewN ?_ _) | (with_reducible refine Part.alloc ?_ _) | refine Part.set ?_ (by simp) _)
  · repeat (first | (with_reducible exact HX.out.pend) | (with_reducible refine Row.drewN ?_ _) | (with_reducible refine Row.alloc ?_ _) | (with_reducible refine Row.far ?_ (by first | exact e5 | exact e6) _) | (with_reducible refine Row.set ?_ _ _))
theorem fload_stop {w : World} {bt bk bw bp : Nat} {ev bu T t n saw put wait left m P D : Int} {nx : Value} {ok : Bool} (h : Buck w bt bk bw ev bu T) (hp : Row w bp 140 (pendT bt t n saw put nx ok wait left))
    (ht : 0 ≤ t) (ht' : t ≤ 2305843009213693952) (hm : max T t = m) (hP : n * ev = P) (hP0 : 0 ≤ P) (hP1 : P ≤ 1152921504606846976) (hD : bu * ev = D) (hg : t + D < m + P) (hn : n ≤ bu) :
    Calls Try.prog 76 #[.pointer (some ⟨bp, 0, none⟩)] w (SteppedT w bk bw bp T (pendT bt t n saw put .nilFunc false (m + P - (t + D)) 0) (.agg #[.int .u8 1, .int .i64 0, .int .u64 T, .int .u64 T, .bool true])) := by
  obtain ⟨c0, c1, c2, c3, c4, c5, c6, c7, c8⟩ := pendT_cells hp
  obtain ⟨k0, k1, k2⟩ := h.cells
  obtain ⟨d0, d1⟩ := h.depth
  have l0 := h.lo
  have l1 := h.hi
  have m0 : 0 ≤ m := by omega
  have m1 : m ≤ 3458764513820540928 := by omega
  have hf := hp.free
  have hbp := hp.lt
  have hbt := h.head.lt
  have hbw := h.words.row.lt
  rw [hD] at d0 d1
  have e5 : ¬ bp = w.heap.size := by omega
  have e6 : ¬ w.heap.size = bp := by omega
  have H := Lib.hid h
  have HP := Lib.hid hp
  have HM := Lib.hid hm
  have HD := Lib.hid hD
  clear h hp hm hD
  go_enter Try.func76, Try.ntmps76
  go_wp2_with (go_at_call 81; refine (tdo_load (H.out.alloc _).words).mono ?_; rintro e w2 ⟨rfl, hW2, hP2⟩; have HX := Lib.hid (mid_t H.out HP.out hW2 l0 l1 hP2); clear hW2 hP2; have HX0 := HX.out.res; unfold noDid at HX0; obtain ⟨b0, b1, b2, b3, b4⟩ := HX0.five; have bf := HX0.free; have blt := HX0.lt; clear HX0; obtain ⟨p0, p1, p2, p3, p4, p5, p6, p7, p8⟩ := pendT_cells HX.out.pend; have pf := HX.out.pend.free; have plt := HX.out.pend.lt; obtain ⟨u0, u1, u2⟩ := HX.out.buck.cells; have ult := HX.out.buck.head.lt)
  go_quiet ((go_at_call 92; exact Calls.quiet_of_same (tspent_at ((HX.out.pend.alloc _).drewN _) l0 l1 HM.out)))
  go_wp2_with (go_at_call 93; refine (tlimit_at ((HX.out.buck.alloc _).drewN _) ht ht' HD.out).mono ?_; rintro e w3 ⟨rfl, n3, rfl⟩)
  go_quiet (fail)
  go_wp2_with (go_at_call 94; refine (tend_any ((HX.out.pend.alloc _).drewN _)).mono ?_; rintro e w4 ⟨rfl, hR4, hP4⟩; have HR4 := Lib.hid hR4; have HP4 := Lib.hid hP4; have hd4 : Row w4 w2.heap.size 45 [.int .u8 1, .int .i64 0, .int .u64 T, .int .u64 T, .bool true] := Row.part ((Row.new w2 _ _).drewN _) hP4 (by simp; omega); obtain ⟨g0, g1, g2, g3, g4⟩ := hd4.five; have glt := hd4.lt; have hb4 : Row w4 w.heap.size 45 noDid := Row.part ((HX.out.res.alloc _).drewN _) hP4 (by simp; omega); unfold noDid at hb4; obtain ⟨b0, b1, b2, b3, b4⟩ := hb4.five; have bf := hb4.free; have blt := hb4.lt; clear hR4 hP4 hd4 hb4)
  refine bodyPost_ret (v := .agg #[.int .u8 1, .int .i64 0, .int .u64 T, .int .u64 T, .bool true]) (by simp [results, Try.results76, go_sem, b0, b1, b2, b3, b4]) rfl ⟨rfl, ?_⟩
  refine mid_fin2 HX.out H.out.words HR4.out HP4.out ?_
  repeat (first | (with_reducible exact Part.refl _ _) | refine Part.set ?_ (by simp) _)
theorem fload_never {w : World} {bt bk bw bp : Nat} {ev bu T t n saw put wait left m P D : Int} {nx : Value} {ok : Bool} (h : Buck w bt bk bw ev bu T) (hp : Row w bp 140 (pendT bt t n saw put nx ok wait left))
    (ht : 0 ≤ t) (ht' : t ≤ 2305843009213693952) (hm : max T t = m) (hP : n * ev = P) (hP0 : 0 ≤ P) (hP1 : P ≤ 1152921504606846976) (hD : bu * ev = D) (hg : t + D < m + P) (hn : bu < n) :
    Calls Try.prog 76 #[.pointer (some ⟨bp, 0, none⟩)] w (SteppedT w bk bw bp T (pendT bt t n saw put .nilFunc false (-1) 0) (.agg #[.int .u8 1, .int .i64 0, .int .u64 T, .int .u64 T, .bool true])) := by
  obtain ⟨c0, c1, c2, c3, c4, c5, c6, c7, c8⟩ := pendT_cells hp
  obtain ⟨k0, k1, k2⟩ := h.cells
  obtain ⟨d0, d1⟩ := h.depth
  have l0 := h.lo
  have l1 := h.hi
  have m0 : 0 ≤ m := by omega
  have m1 : m ≤ 3458764513820540928 := by omega
  have hf := hp.free
  have hbp := hp.lt
  have hbt := h.head.lt
  have hbw := h.words.row.lt
  rw [hD] at d0 d1
  have e5 : ¬ bp = w.heap.size := by omega
  have e6 : ¬ w.heap.size = bp := by omega
  have H := Lib.hid h
  have HP := Lib.hid hp
  have HM := Lib.hid hm
  have HD := Lib.hid hD
  clear h hp hm hD
  go_enter Try.func76, Try.ntmps76
  go_wp2_with (go_at_call 81; refine (tdo_load (H.out.alloc _).words).mono ?_; rintro e w2 ⟨rfl, hW2, hP2⟩; have HX := Lib.hid (mid_t H.out HP.out hW2 l0 l1 hP2); clear hW2 hP2; have HX0 := HX.out.res; unfold noDid at HX0; obtain ⟨b0, b1, b2, b3, b4⟩ := HX0.five; have bf := HX0.free; have blt := HX0.lt; clear HX0; obtain ⟨p0, p1, p2, p3, p4, p5, p6, p7, p8⟩ := pendT_cells HX.out.pend; have pf := HX.out.pend.free; have plt := HX.out.pend.lt; obtain ⟨u0, u1, u2⟩ := HX.out.buck.cells; have ult := HX.out.buck.head.lt)
  go_quiet ((go_at_call 92; exact Calls.quiet_of_same (tspent_at ((HX.out.pend.alloc _).drewN _) l0 l1 HM.out)))
  go_wp2_with (go_at_call 93; refine (tlimit_at ((HX.out.buck.alloc _).drewN _) ht ht' HD.out).mono ?_; rintro e w3 ⟨rfl, n3, rfl⟩)
  go_quiet (fail)
  go_wp2_with (go_at_call 94; refine (tend_any ((HX.out.pend.alloc _).drewN _)).mono ?_; rintro e w4 ⟨rfl, hR4, hP4⟩; have HR4 := Lib.hid hR4; have HP4 := Lib.hid hP4; have hd4 : Row w4 w2.heap.size 45 [.int .u8 1, .int .i64 0, .int .u64 T, .int .u64 T, .bool true] := Row.part ((Row.new w2 _ _).drewN _) hP4 (by simp; omega); obtain ⟨g0, g1, g2, g3, g4⟩ := hd4.five; have glt := hd4.lt; have hb4 : Row w4 w.heap.size 45 noDid := Row.part ((HX.out.res.alloc _).drewN _) hP4 (by simp; omega); unfold noDid at hb4; obtain ⟨b0, b1, b2, b3, b4⟩ := hb4.five; have bf := hb4.free; have blt := hb4.lt; clear hR4 hP4 hd4 hb4)
  refine bodyPost_ret (v := .agg #[.int .u8 1, .int .i64 0, .int .u64 T, .int .u64 T, .bool true]) (by simp [results, Try.results76, go_sem, b0, b1, b2, b3, b4]) rfl ⟨rfl, ?_⟩
  refine mid_fin2 HX.out H.out.words HR4.out HP4.out ?_
  repeat (first | (with_reducible exact Part.refl _ _) | refine Part.set ?_ (by simp) _)
end Go.Proofs.Ytcocegneegjcpaa
