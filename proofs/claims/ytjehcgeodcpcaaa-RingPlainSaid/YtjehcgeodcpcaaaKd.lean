/- THE WALKS of package ring: load. -/
import Derived.Test.YtjehcgeodcpcaaaKc
namespace Go.Proofs.Ytjehcgeodcpcaaa
open Go Go.RowKit

/-- what a step's function leaves -/
def SteppedN (w : World) (bk bw bp : Nat) (ws : List Int) (l : List Value) (v : Value) (e : Ending) (w' : World) : Prop := e = .returned v ∧ Words w' bk bw ws ∧ Row w' bp 77 l ∧ Part [bw, bp] w w'
section
variable {w : World} {br bk bw bp : Nat} {wd x : Int} {ws : List Int} {t c : Nat} {last n saw0 put0 ans why : Int} {nx : Value}
theorem nact_load (h : Rng w br bk bw wd ws) (hp : Row w bp 77 (pendN br (t : Int) last n saw0 put0 nx ans why)) (ht : t ≤ 4294967295) (hc : t % ws.length = c) (hx : ws[c]? = some x) :
    Calls Try.prog 35 #[.pointer (some ⟨bp, 0, none⟩), .int .u8 1, .int .u64 0, .int .u64 0] w (ActedN w bk bw ws (.agg #[.int .u8 1, .int .i64 (c : Int), .int .u64 x, .int .u64 x, .bool true])) :=
  nact_any h hp ht hc (fun _ hW => do_load hW hx)
theorem nact_hit {y : Int} (h : Rng w br bk bw wd ws) (hp : Row w bp 77 (pendN br (t : Int) last n saw0 put0 nx ans why)) (ht : t ≤ 4294967295) (hc : t % ws.length = c) (hx : ws[c]? = some x) (hy : U64 y) :
    Calls Try.prog 35 #[.pointer (some ⟨bp, 0, none⟩), .int .u8 5, .int .u64 x, .int .u64 y] w (ActedN w bk bw (ws.set c y) (.agg #[.int .u8 5, .int .i64 (c : Int), .int .u64 x, .int .u64 y, .bool true])) :=
  nact_any h hp ht hc (fun _ hW => do_hit hW hx hy)
theorem nact_miss {o y : Int} (h : Rng w br bk bw wd ws) (hp : Row w bp 77 (pendN br (t : Int) last n saw0 put0 nx ans why)) (ht : t ≤ 4294967295) (hc : t % ws.length = c) (hx : ws[c]? = some x) (hne : ¬ x = o) :
    Calls Try.prog 35 #[.pointer (some ⟨bp, 0, none⟩), .int .u8 5, .int .u64 o, .int .u64 y] w (ActedN w bk bw ws (.agg #[.int .u8 5, .int .i64 (c : Int), .int .u64 x, .int .u64 x, .bool false])) :=
  nact_any h hp ht hc (fun _ hW => do_miss hW hx hne)
end

/-- behind the action: what it did lies in a block g of its own -/
structure MidN (w : World) (bk bw bp : Nat) (ws : List Int) (l did : List Value) (g : Nat) (wx : World) : Prop where
  lo : w.heap.size < g
  words : Words wx bk bw ws
  pend : Row wx bp 77 l
  did : Row wx g 48 did
  res : Row wx w.heap.size 48 noDid
  part : Part [bw] w wx
def MidNv (w : World) (bk bw bp : Nat) (ws : List Int) (l did : List Value) (v : Value) (wx : World) : Prop := ∃ g, v = .pointer (some ⟨g, 0, none⟩) ∧ MidN w bk bw bp ws l did g wx
section
variable {w w2 : World} {bk bw bp : Nat} {ws ws' : List Int} {l : List Value} {k c saw put : Int} {ok : Bool}
theorem midn_a (h : Words w bk bw ws) (hp : Row w bp 77 l) (hW : Words w2 bk bw ws') (hP : Part [bw] (w.alloc (.cells noDid.toArray 48)) w2) {did : List Value} :
    MidN w bk bw bp ws' l did w2.heap.size (w2.alloc (.cells did.toArray 48)) := by
  have hn : bp ∉ [bw] := by simpa using hp.ne h.row (by decide)
  have hb := h.row.lt
  have h0 : w.heap.size ∉ [bw] := by simp; omega
  have hr : Row w2 w.heap.size 48 noDid := Row.part (Row.new w _ _) hP h0
  exact ⟨hr.lt, hW.alloc _, (Row.part (hp.alloc _) hP hn).alloc _, Row.new _ _ _, hr.alloc _, (Part.trans (S' := [bw]) ((Part.refl [bw] w).alloc _) hP (by simp)).alloc _⟩
theorem midn_a' (h : Words w bk bw ws) (hp : Row w bp 77 l) (hW : Words w2 bk bw ws') (hP : Part [bw] (w.alloc (.cells noDid.toArray 48)).drew w2) {did : List Value} :
    MidN w bk bw bp ws' l did w2.heap.size (w2.alloc (.cells did.toArray 48)) := midn_a h hp hW ⟨hP.os, hP.tape, hP.output, hP.size, hP.block⟩
theorem midn_b (h : Words w bk bw ws) (hp : Row w bp 77 l) (hW : Words w2 bk bw ws') (hP : Part [bw] ((w.alloc (.cells noDid.toArray 48)).alloc (.cells noDid.toArray 48)).drew w2) :
    MidN w bk bw bp ws' l [.int .u8 k, .int .i64 c, .int .u64 saw, .int .u64 put, .bool ok] (w.heap.size + 1)
      (((((w2.setCell ⟨w.heap.size + 1, 0, none⟩ (.int .u8 k)).setCell ⟨w.heap.size + 1, 1, none⟩ (.int .i64 c)).setCell ⟨w.heap.size + 1, 2, none⟩ (.int .u64 saw)).setCell ⟨w.heap.size + 1, 3, none⟩ (.int .u64 put)).setCell ⟨w.heap.size + 1, 4, none⟩ (.bool ok)) := by
  have hn : bp ∉ [bw] := by simpa using hp.ne h.row (by decide)
  have hb := h.row.lt
  have hb' := h.head.lt
  have hpl := hp.lt
  have h0 : w.heap.size ∉ [bw] := by simp; omega
  have h1 : w.heap.size + 1 ∉ [bw] := by simp; omega
  have hr : Row w2 w.heap.size 48 noDid := Row.part ((Row.new w _ _).alloc _).drew hP h0
  have hr1 : Row w2 (w.heap.size + 1) 48 noDid := Row.part (Row.new2 w _ _ _ rfl).drew hP h1
  have hp2 := Row.part ((hp.alloc _).alloc _).drew hP hn
  have hE : Part [w.heap.size + 1] w2 (((((w2.setCell ⟨w.heap.size + 1, 0, none⟩ (.int .u8 k)).setCell ⟨w.heap.size + 1, 1, none⟩ (.int .i64 c)).setCell ⟨w.heap.size + 1, 2, none⟩ (.int .u64 saw)).setCell ⟨w.heap.size + 1, 3, none⟩ (.int .u64 put)).setCell ⟨w.heap.size + 1, 4, none⟩ (.bool ok)) := by
    repeat (refine Part.set ?_ (by simp) _)
    exact Part.refl _ _
  refine ⟨by omega, hW.part hE (by simp; omega) (by simp; omega), hp2.part hE (by simp; omega), ?_, hr.part hE (by simp), ?_⟩
  · exact Row.of_eq (((((hr1.set 0 _).set 1 _).set 2 _).set 3 _).set 4 _) rfl
  · refine Part.trans (S' := [w.heap.size + 1]) (Part.trans (S' := [bw]) ((((Part.refl [bw] w).alloc _).alloc _).drew) hP (by simp)) hE (fun q hq hm => ?_)
    simp at hm
    omega
theorem MidN.drew {did : List Value} {g : Nat} {wx : World} (h : MidN w bk bw bp ws l did g wx) : MidN w bk bw bp ws l did g wx.drew := ⟨h.lo, h.words.drew, h.pend, h.did, h.res, h.part.drew⟩
theorem midn_end {wx wf : World} {l' l'' did : List Value} {g : Nat} (hM : MidN w bk bw bp ws l did g wx) (h : Words w bk bw ws') (hE : Part [bp, w.heap.size] wx wf) (hr : Row wf bp 77 l') (he : l' = l'') :
    Words wf bk bw ws ∧ Row wf bp 77 l'' ∧ Part [bw, bp] w wf := by
  have h1 := h.head.lt
  have h2 := h.row.lt
  have h3 : bk ≠ bp := hM.words.head.ne hM.pend (by decide)
  have h4 : bw ≠ bp := hM.words.row.ne hM.pend (by decide)
  refine ⟨hM.words.part hE (by simp [h3]; omega) (by simp [h4]; omega), he ▸ hr, ?_⟩
  refine Part.trans (S' := [bp, w.heap.size]) (hM.part.mono (S' := [bw, bp]) (fun q _ hm => by simp at hm; simp [hm])) hE (fun q hq hm => ?_)
  simp at hm ⊢
  omega
theorem midn_end2 {wx wy w4 wf : World} {g : Nat} {l' did : List Value} (hM : MidN w bk bw bp ws l did g wx) (h : Words w bk bw ws') (hbp : bp < w.heap.size) (hR : Row w4 bp 77 l') (hY : Part [bp] wx wy) (hP : Part [bp] wy w4) (hE : Part [w.heap.size] w4 wf) :
    Words wf bk bw ws ∧ Row wf bp 77 l' ∧ Part [bw, bp] w wf := by
  have hb := hM.res.lt
  have hE2 : Part [bp, w.heap.size] wx wf := by
    refine Part.trans (S' := [w.heap.size]) (Part.trans (S' := [bp]) (hY.mono (S' := [bp, w.heap.size]) (fun q _ hm => by simp at hm; simp [hm])) hP (fun q _ hm => by simp at hm ⊢; omega)) hE (fun q _ hm => by simp at hm ⊢; omega)
  exact midn_end hM h hE2 (hR.part hE (by simp; omega)) rfl
theorem midn_endN {wx wf : World} {l' did : List Value} {g k : Nat} (hM : MidN w bk bw bp ws l did g wx) (h : Words w bk bw ws') (hE : Part [bp, w.heap.size] (wx.drewN k) wf) (hr : Row wf bp 77 l') :
    Words wf bk bw ws ∧ Row wf bp 77 l' ∧ Part [bw, bp] w wf :=
  midn_end hM h (Part.trans (S' := [bp, w.heap.size]) ((Part.refl _ wx).drewN k) hE (fun _ _ hm => hm)) hr rfl
end
theorem rtick_is {x q : Int} (h : U64 x) (e : x / 4294967296 = q) (w : World) : Calls Try.prog 36 #[.int .u64 x] w fun e w' => e = .returned (.int .i64 q) ∧ w = w' := by
  subst e
  exact rtick_any h w
theorem quiet_behind {P : Program} {f : FuncId} {args : Array Value} {w : World} {a n : Nat} {v : Value} (h : Calls P f args (w.drewN (a + n)) fun e w' => e = .returned v ∧ w.drewN (a + n) = w') :
    Calls P f args (w.drewN (a + n)) fun e w'' => e = .returned v ∧ ∃ m, w'' = w.drewN (a + m) := h.mono fun _ _ h' => ⟨h'.1, n, h'.2.symm⟩
theorem rcount_at {x q v : Int} (h : U64 x) (e : cntN x q = v) (w : World) : Calls Try.prog 33 #[.int .u64 x, .int .i64 q] w fun e w' => e = .returned (.int .u64 v) ∧ w' = w := by
  subst e
  exact (rcount_any h q w).mono fun _ _ ⟨a, b⟩ => ⟨a, b.symm⟩
theorem rword_at {q c v : Int} (q0 : 0 ≤ q) (q1 : q ≤ 4294967295) (c0 : 0 ≤ c) (c1 : c ≤ 4294967295) (e : wordN q c = v) (w : World) : Calls Try.prog 38 #[.int .i64 q, .int .u64 c] w fun e w' => e = .returned (.int .u64 v) ∧ w = w' := by
  subst e
  exact rword_any q0 q1 c0 c1 w

set_option maxHeartbeats 1600000
set_option maxRecDepth 100000
theorem nload_late {w : World} {br bk bw bp : Nat} {wd x last n saw put ans why q k _P : Int} {ws : List Int} {t c : Nat} {nx : Value} (h : Rng w br bk bw wd ws) (hp : Row w bp 77 (pendN br (t : Int) last n saw put nx ans why))
    (ht : t ≤ 4294967295) (hc : t % ws.length = c) (hx : ws[c]? = some x) (ux : U64 x) (n0 : 0 ≤ n) (n1 : n ≤ 4294967295) (hk : x / 4294967296 = k) (hq : cntN x (t : Int) = q) (hl : (t : Int) < k) :
    Calls Try.prog 27 #[.pointer (some ⟨bp, 0, none⟩)] w (SteppedN w bk bw bp ws (pendN br (t : Int) last n saw put .nilFunc 0 50) (.agg #[.int .u8 1, .int .i64 (c : Int), .int .u64 x, .int .u64 x, .bool true])) := by
  obtain ⟨c0, c1, c2, c3, c4, c5, c6, c7, c8⟩ := pendN_cells hp
  have q0 := (cntN_lo ux (t : Int)).1
  have q1 := (cntN_lo ux (t : Int)).2
  rw [hq] at q0 q1
  have dl : decide ((t : Int) < k) = true := by simpa using hl
  clear hl
  have hbp := hp.lt
  have hbw := h.words.row.lt
  have e5 : ¬ bp = w.heap.size := by omega
  have e6 : ¬ w.heap.size = bp := by omega
  have H := Lib.hid h
  have HP := Lib.hid hp
  have HC := Lib.hid hc
  have HX := Lib.hid hx
  have HU := Lib.hid ux
  have HK := Lib.hid hk
  have HQ := Lib.hid hq
  clear h hp hc hx ux hk hq c1 c2 c3 c4 c5 c6 c7 c8
  go_enter Try.func27, Try.ntmps27
  go_wp2_with (go_at_call 35; refine (nact_load (H.out.alloc _) (HP.out.alloc _) ht HC.out HX.out).mono ?_; rintro e w2 ⟨rfl, hW2, hP2⟩; have HM := Lib.hid (midn_a H.out.words HP.out hW2 hP2 (did := [.int .u8 1, .int .i64 (c : Int), .int .u64 x, .int .u64 x, .bool true])); clear hW2 hP2; have hg := HM.out.lo; obtain ⟨p0, p1, p2, p3, p4, p5, p6, p7, p8⟩ := pendN_cells HM.out.pend; have pf := HM.out.pend.free; have plt := HM.out.pend.lt; have hdd := HM.out.did; obtain ⟨g0, g1, g2, g3, g4⟩ := hdd.five; have glt := hdd.lt; have hb4 := HM.out.res; unfold noDid at hb4; obtain ⟨x0, x1, x2, x3, x4⟩ := hb4.five; have xf := hb4.free; have xlt := hb4.lt; clear hdd hb4)
  have e1 : ¬ bp = w2.heap.size := by omega
  have e2 : ¬ w2.heap.size = bp := by omega
  go_quiet ((go_at_call 33; exact Calls.quiet_of_same (rcount_at HU.out HQ.out _)))
  go_wp2
  go_quiet ((go_at_call 36; exact quiet_behind (rtick_is HU.out HK.out _)))
  go_wp2_with (go_at_call 37; refine (nend_any (HM.out.pend.drewN _) 0 50).mono ?_; rintro e w4 ⟨rfl, hR4, hP4⟩; have HR4 := Lib.hid hR4; have HP4 := Lib.hid hP4; have hd4 := Row.part (HM.out.did.drewN _) hP4 (by simp; omega); obtain ⟨i0, i1, i2, i3, i4⟩ := hd4.five; have ilt := hd4.lt; have hb4 := Row.part (HM.out.res.drewN _) hP4 (by simp; omega); unfold noDid at hb4; obtain ⟨j0, j1, j2, j3, j4⟩ := hb4.five; have jf := hb4.free; have jlt := hb4.lt; clear hR4 hP4 hd4 hb4)
  refine bodyPost_ret (v := .agg #[.int .u8 1, .int .i64 (c : Int), .int .u64 x, .int .u64 x, .bool true]) (by simp [results, Try.results27, go_sem, j0, j1, j2, j3, j4]) rfl ⟨rfl, ?_⟩
  refine midn_end2 HM.out H.out.words hbp HR4.out ((Part.refl _ _).drewN _) HP4.out ?_
  repeat (first | (with_reducible exact Part.refl _ _) | refine Part.set ?_ (by simp) _)
theorem nload_full {w : World} {br bk bw bp : Nat} {wd x last n saw put ans why q k _P : Int} {ws : List Int} {t c : Nat} {nx : Value} (h : Rng w br bk bw wd ws) (hp : Row w bp 77 (pendN br (t : Int) last n saw put nx ans why))
    (ht : t ≤ 4294967295) (hc : t % ws.length = c) (hx : ws[c]? = some x) (ux : U64 x) (n0 : 0 ≤ n) (n1 : n ≤ 4294967295) (hk : x / 4294967296 = k) (hq : cntN x (t : Int) = q) (hl : k ≤ (t : Int)) (hf : 4294967295 < q + n) :
    Calls Try.prog 27 #[.pointer (some ⟨bp, 0, none⟩)] w (SteppedN w bk bw bp ws (pendN br (t : Int) last n saw put .nilFunc 0 51) (.agg #[.int .u8 1, .int .i64 (c : Int), .int .u64 x, .int .u64 x, .bool true])) := by
  obtain ⟨c0, c1, c2, c3, c4, c5, c6, c7, c8⟩ := pendN_cells hp
  have q0 := (cntN_lo ux (t : Int)).1
  have q1 := (cntN_lo ux (t : Int)).2
  rw [hq] at q0 q1
  have dl : decide ((t : Int) < k) = false := by simpa using hl
  have df : decide (4294967295 < q + n) = true := by simpa using hf
  clear hl
  have hbp := hp.lt
  have hbw := h.words.row.lt
  have e5 : ¬ bp = w.heap.size := by omega
  have e6 : ¬ w.heap.size = bp := by omega
  have H := Lib.hid h
  have HP := Lib.hid hp
  have HC := Lib.hid hc
  have HX := Lib.hid hx
  have HU := Lib.hid ux
  have HK := Lib.hid hk
  have HQ := Lib.hid hq
  clear h hp hc hx ux hk hq c1 c2 c3 c4 c5 c6 c7 c8
  go_enter Try.func27, Try.ntmps27
  go_wp2_with (go_at_call 35; refine (nact_load (H.out.alloc _) (HP.out.alloc _) ht HC.out HX.out).mono ?_; rintro e w2 ⟨rfl, hW2, hP2⟩; have HM := Lib.hid (midn_a H.out.words HP.out hW2 hP2 (did := [.int .u8 1, .int .i64 (c : Int), .int .u64 x, .int .u64 x, .bool true])); clear hW2 hP2; have hg := HM.out.lo; obtain ⟨p0, p1, p2, p3, p4, p5, p6, p7, p8⟩ := pendN_cells HM.out.pend; have pf := HM.out.pend.free; have plt := HM.out.pend.lt; have hdd := HM.out.did; obtain ⟨g0, g1, g2, g3, g4⟩ := hdd.five; have glt := hdd.lt; have hb4 := HM.out.res; unfold noDid at hb4; obtain ⟨x0, x1, x2, x3, x4⟩ := hb4.five; have xf := hb4.free; have xlt := hb4.lt; clear hdd hb4)
  have e1 : ¬ bp = w2.heap.size := by omega
  have e2 : ¬ w2.heap.size = bp := by omega
  go_quiet ((go_at_call 33; exact Calls.quiet_of_same (rcount_at HU.out HQ.out _)))
  go_wp2
  go_quiet ((go_at_call 36; exact quiet_behind (rtick_is HU.out HK.out _)))
  go_wp2_with (go_at_call 37; refine (nend_any (HM.out.pend.drewN _) 0 51).mono ?_; rintro e w4 ⟨rfl, hR4, hP4⟩; have HR4 := Lib.hid hR4; have HP4 := Lib.hid hP4; have hd4 := Row.part (HM.out.did.drewN _) hP4 (by simp; omega); obtain ⟨i0, i1, i2, i3, i4⟩ := hd4.five; have ilt := hd4.lt; have hb4 := Row.part (HM.out.res.drewN _) hP4 (by simp; omega); unfold noDid at hb4; obtain ⟨j0, j1, j2, j3, j4⟩ := hb4.five; have jf := hb4.free; have jlt := hb4.lt; clear hR4 hP4 hd4 hb4)
  refine bodyPost_ret (v := .agg #[.int .u8 1, .int .i64 (c : Int), .int .u64 x, .int .u64 x, .bool true]) (by simp [results, Try.results27, go_sem, j0, j1, j2, j3, j4]) rfl ⟨rfl, ?_⟩
  refine midn_end2 HM.out H.out.words hbp HR4.out ((Part.refl _ _).drewN _) HP4.out ?_
  repeat (first | (with_reducible exact Part.refl _ _) | refine Part.set ?_ (by simp) _)
theorem nload_go {w : World} {br bk bw bp : Nat} {wd x last n saw put ans why q k P : Int} {ws : List Int} {t c : Nat} {nx : Value} (h : Rng w br bk bw wd ws) (hp : Row w bp 77 (pendN br (t : Int) last n saw put nx ans why))
    (ht : t ≤ 4294967295) (hc : t % ws.length = c) (hx : ws[c]? = some x) (ux : U64 x) (n0 : 0 ≤ n) (n1 : n ≤ 4294967295) (hk : x / 4294967296 = k) (hq : cntN x (t : Int) = q) (hl : k ≤ (t : Int)) (hC1 : q + n ≤ 4294967295) (hE : wordN (t : Int) (q + n) = P) :
    Calls Try.prog 27 #[.pointer (some ⟨bp, 0, none⟩)] w (SteppedN w bk bw bp ws (pendN br (t : Int) last n x P (fnV 39) (q + n) why) (.agg #[.int .u8 1, .int .i64 (c : Int), .int .u64 x, .int .u64 x, .bool true])) := by
  obtain ⟨c0, c1, c2, c3, c4, c5, c6, c7, c8⟩ := pendN_cells hp
  have q0 := (cntN_lo ux (t : Int)).1
  have q1 := (cntN_lo ux (t : Int)).2
  rw [hq] at q0 q1
  have dl : decide ((t : Int) < k) = false := by simpa using hl
  have df : decide (4294967295 < q + n) = false := by simpa using hC1
  have t0 : (0 : Int) ≤ (t : Int) := by omega
  have t1 : (t : Int) ≤ 4294967295 := by omega
  have s0 : 0 ≤ q + n := by omega
  have HE := Lib.hid hE
  clear hl hE
  have hbp := hp.lt
  have hbw := h.words.row.lt
  have e5 : ¬ bp = w.heap.size := by omega
  have e6 : ¬ w.heap.size = bp := by omega
  have H := Lib.hid h
  have HP := Lib.hid hp
  have HC := Lib.hid hc
  have HX := Lib.hid hx
  have HU := Lib.hid ux
  have HK := Lib.hid hk
  have HQ := Lib.hid hq
  clear h hp hc hx ux hk hq c1 c2 c3 c4 c5 c6 c7 c8
  go_enter Try.func27, Try.ntmps27
  go_wp2_with (go_at_call 35; refine (nact_load (H.out.alloc _) (HP.out.alloc _) ht HC.out HX.out).mono ?_; rintro e w2 ⟨rfl, hW2, hP2⟩; have HM := Lib.hid (midn_a H.out.words HP.out hW2 hP2 (did := [.int .u8 1, .int .i64 (c : Int), .int .u64 x, .int .u64 x, .bool true])); clear hW2 hP2; have hg := HM.out.lo; obtain ⟨p0, p1, p2, p3, p4, p5, p6, p7, p8⟩ := pendN_cells HM.out.pend; have pf := HM.out.pend.free; have plt := HM.out.pend.lt; have hdd := HM.out.did; obtain ⟨g0, g1, g2, g3, g4⟩ := hdd.five; have glt := hdd.lt; have hb4 := HM.out.res; unfold noDid at hb4; obtain ⟨x0, x1, x2, x3, x4⟩ := hb4.five; have xf := hb4.free; have xlt := hb4.lt; clear hdd hb4)
  have e1 : ¬ bp = w2.heap.size := by omega
  have e2 : ¬ w2.heap.size = bp := by omega
  go_quiet ((go_at_call 33; exact Calls.quiet_of_same (rcount_at HU.out HQ.out _)))
  go_wp2
  go_quiet ((go_at_call 36; exact quiet_behind (rtick_is HU.out HK.out _)))
  go_wp2_with (fail)
  go_region_with ((go_at_call 38; (with_reducible refine (rword_at t0 t1 s0 hC1 HE.out _).mono ?_); rintro e w5 ⟨rfl, rfl⟩))
  all_goals
    go_wp2
    refine bodyPost_ret (v := .agg #[.int .u8 1, .int .i64 (c : Int), .int .u64 x, .int .u64 x, .bool true]) (by simp [results, Try.results27, go_sem, x0, x1, x2, x3, x4]) rfl ⟨rfl, ?_⟩
    refine midn_end HM.out H.out.words (l' := ((((pendN br (t : Int) last n saw put nx ans why).set 4 (.int .u64 x)).set 5 (.int .u64 P)).set 7 (.int .u64 (q + n))).set 6 (.func (.func 39) #[] #[])) ?_ ?_ (by simp [pendN, fnV])
    · repeat (first | (with_reducible exact Part.refl _ _) | (with_reducible refine Part.drew ?_) | (with_reducible refine Part.drewN ?_ _) | refine Part.set ?_ (by simp) _)
    · repeat (first | (with_reducible exact HM.out.pend) | (with_reducible refine Row.drew ?_) | (with_reducible refine Row.drewN ?_ _) | (with_reducible refine Row.far ?_ (by first | exact e5 | exact e6) _) | (with_reducible refine Row.set ?_ _ _))
end Go.Proofs.Ytjehcgeodcpcaaa
