/- THE WALKS of package ring: gather. -/
import Derived.Test.YtjehcgeodcpcaaaKd
namespace Go.Proofs.Ytjehcgeodcpcaaa
open Go Go.RowKit

theorem wrap_is {a : Int} (h0 : 0 ≤ a) (h1 : a < 18446744073709551616) : IntKind.u64.wrap a = a := by
  simp [IntKind.wrap, IntKind.bits, IntKind.signed]
  omega
/-- behind the action and a store into the pending -/
structure MidQ (w : World) (bk bw bp : Nat) (ws : List Int) (l did : List Value) (g : Nat) (wx : World) : Prop where
  lo : w.heap.size < g
  words : Words wx bk bw ws
  pend : Row wx bp 77 l
  did : Row wx g 48 did
  res : Row wx w.heap.size 48 noDid
  part : Part [bw, bp] w wx
section
variable {w : World} {bk bw bp : Nat} {ws ws' : List Int} {l : List Value}
theorem MidN.setQ {wx : World} {did l' : List Value} {g i : Nat} {v : Value} (hM : MidN w bk bw bp ws l did g wx) (_h : Words w bk bw ws') (hbp : bp < w.heap.size) (he : l.set i v = l') : MidQ w bk bw bp ws l' did g ((wx.setCell ⟨bp, i, none⟩ v).drew) := by
  have h3 : bk ≠ bp := hM.words.head.ne hM.pend (by decide)
  have h4 : bw ≠ bp := hM.words.row.ne hM.pend (by decide)
  have hlo := hM.lo
  have hE : Part [bp] wx ((wx.setCell ⟨bp, i, none⟩ v).drew) := ((Part.refl [bp] wx).set (by simp) v).drew
  refine ⟨hM.lo, hM.words.part hE (by simpa using h3) (by simpa using h4), he ▸ (hM.pend.set i v).drew, hM.did.part hE (by simp; omega), hM.res.part hE (by simp; omega), ?_⟩
  refine Part.trans (S' := [bp]) (hM.part.mono (S' := [bw, bp]) (fun q _ hm => by simp at hm; simp [hm])) hE (fun q hq hm => ?_)
  simp at hm ⊢
  omega
theorem midq_end {wx wf : World} {l' l'' did : List Value} {g : Nat} (hM : MidQ w bk bw bp ws l did g wx) (h : Words w bk bw ws') (hE : Part [bp, w.heap.size] wx wf) (hr : Row wf bp 77 l') (he : l' = l'') :
    Words wf bk bw ws ∧ Row wf bp 77 l'' ∧ Part [bw, bp] w wf := by
  have h1 := h.head.lt
  have h2 := h.row.lt
  have h3 : bk ≠ bp := hM.words.head.ne hM.pend (by decide)
  have h4 : bw ≠ bp := hM.words.row.ne hM.pend (by decide)
  refine ⟨hM.words.part hE (by simp [h3]; omega) (by simp [h4]; omega), he ▸ hr, ?_⟩
  refine Part.trans (S' := [bp, w.heap.size]) hM.part hE (fun q hq hm => ?_)
  simp at hm ⊢
  omega
theorem midq_end2 {wx wy w4 wf : World} {g : Nat} {l' did : List Value} (hM : MidQ w bk bw bp ws l did g wx) (h : Words w bk bw ws') (hbp : bp < w.heap.size) (hR : Row w4 bp 77 l') (hY : Part [bp] wx wy) (hP : Part [bp] wy w4) (hE : Part [w.heap.size] w4 wf) :
    Words wf bk bw ws ∧ Row wf bp 77 l' ∧ Part [bw, bp] w wf := by
  have hb := hM.res.lt
  have hE2 : Part [bp, w.heap.size] wx wf := by
    refine Part.trans (S' := [w.heap.size]) (Part.trans (S' := [bp]) (hY.mono (S' := [bp, w.heap.size]) (fun q _ hm => by simp at hm; simp [hm])) hP (fun q _ hm => by simp at hm ⊢; omega)) hE (fun q _ hm => by simp at hm ⊢; omega)
  exact midq_end hM h hE2 (hR.part hE (by simp; omega)) rfl
end
set_option maxHeartbeats 1600000
set_option maxRecDepth 100000
theorem ngather_last {w : World} {br bk bw bp : Nat} {wd x n saw put ans why q : Int} {ws : List Int} {t c : Nat} {nx : Value} (h : Rng w br bk bw wd ws) (hp : Row w bp 77 (pendN br (t : Int) (t : Int) n saw put nx ans why))
    (ht : t ≤ 4294967295) (hc : t % ws.length = c) (hx : ws[c]? = some x) (ux : U64 x) (a0 : 0 ≤ ans) (a1 : ans ≤ 17592186044416) (hq : cntN x (t : Int) = q) :
    Calls Try.prog 29 #[.pointer (some ⟨bp, 0, none⟩)] w (SteppedN w bk bw bp ws (pendN br (t : Int) (t : Int) n saw put .nilFunc (ans + q) 0) (.agg #[.int .u8 1, .int .i64 (c : Int), .int .u64 x, .int .u64 x, .bool true])) := by
  obtain ⟨c0, c1, c2, c3, c4, c5, c6, c7, c8⟩ := pendN_cells hp
  have q0 := (cntN_lo ux (t : Int)).1
  have q1 := (cntN_lo ux (t : Int)).2
  rw [hq] at q0 q1
  have hbp := hp.lt
  have hbw := h.words.row.lt
  have e5 : ¬ bp = w.heap.size := by omega
  have e6 : ¬ w.heap.size = bp := by omega
  have H := Lib.hid h
  have HP := Lib.hid hp
  have HC := Lib.hid hc
  have HX := Lib.hid hx
  have HU := Lib.hid ux
  have HQ := Lib.hid hq
  clear h hp hc hx ux hq c1 c2 c3 c4 c5 c6 c7 c8
  go_enter Try.func29, Try.ntmps29
  go_wp2_with (go_at_call 35; refine (nact_load (H.out.alloc _) (HP.out.alloc _) ht HC.out HX.out).mono ?_; rintro e w2 ⟨rfl, hW2, hP2⟩; have HM := Lib.hid (midn_a H.out.words HP.out hW2 hP2 (did := [.int .u8 1, .int .i64 (c : Int), .int .u64 x, .int .u64 x, .bool true])); clear hW2 hP2; have hg := HM.out.lo; obtain ⟨p0, p1, p2, p3, p4, p5, p6, p7, p8⟩ := pendN_cells HM.out.pend; have pf := HM.out.pend.free; have plt := HM.out.pend.lt; have hdd := HM.out.did; obtain ⟨g0, g1, g2, g3, g4⟩ := hdd.five; have glt := hdd.lt; have hb4 := HM.out.res; unfold noDid at hb4; obtain ⟨x0, x1, x2, x3, x4⟩ := hb4.five; have xf := hb4.free; have xlt := hb4.lt; clear hdd hb4)
  have e1 : ¬ bp = w2.heap.size := by omega
  have e2 : ¬ w2.heap.size = bp := by omega
  have HS := Lib.hid (MidN.setQ HM.out H.out.words hbp (l' := pendN br (t : Int) (t : Int) n saw put nx (ans + q) why) (i := 7) (v := .int .u64 (IntKind.u64.wrap (ans + q))) (by rw [wrap_is (by omega) (by omega)]; rfl))
  go_upto_region 2 with fail
  go_cut [9] (fun _ wx => MidQ w bk bw bp ws (pendN br (t : Int) (t : Int) n saw put nx (ans + q) why) [.int .u8 1, .int .i64 (c : Int), .int .u64 x, .int .u64 x, .bool true] w2.heap.size wx)
  case first =>
    go_region_with ((go_at_call 33; (with_reducible refine (rcount_at HU.out HQ.out _).mono ?_); rintro e w5 ⟨rfl, rfl⟩))
    all_goals
      go_wp2_with fail
      go_meet
      exact HS.out
  case rest =>
    clear p0 p1 p2 p3 p4 p5 p6 p7 p8 pf plt g0 g1 g2 g3 g4 glt x0 x1 x2 x3 x4 xf xlt HS
    obtain ⟨p0, p1, p2, p3, p4, p5, p6, p7, p8⟩ := pendN_cells hcut.pend
    have pf := hcut.pend.free
    have plt := hcut.pend.lt
    have hdd := hcut.did
    obtain ⟨g0, g1, g2, g3, g4⟩ := hdd.five
    have glt := hdd.lt
    have hb4 := hcut.res
    unfold noDid at hb4
    obtain ⟨x0, x1, x2, x3, x4⟩ := hb4.five
    have xf := hb4.free
    have xlt := hb4.lt
    have HQM := Lib.hid hcut
    clear hdd hb4 hcut
    go_wp2
    go_quiet (fail)
    go_wp2_with (go_at_call 37; refine (nend_any (HQM.out.pend.drewN _) (ans + q) 0).mono ?_; rintro e w4 ⟨rfl, hR4, hP4⟩; have HR4 := Lib.hid hR4; have HP4 := Lib.hid hP4; have hd4 := Row.part (HQM.out.did.drewN _) hP4 (by simp; omega); obtain ⟨i0, i1, i2, i3, i4⟩ := hd4.five; have ilt := hd4.lt; have hb4 := Row.part (HQM.out.res.drewN _) hP4 (by simp; omega); unfold noDid at hb4; obtain ⟨j0, j1, j2, j3, j4⟩ := hb4.five; have jf := hb4.free; have jlt := hb4.lt; clear hR4 hP4 hd4 hb4)
    refine bodyPost_ret (v := .agg #[.int .u8 1, .int .i64 (c : Int), .int .u64 x, .int .u64 x, .bool true]) (by simp [results, Try.results29, go_sem, j0, j1, j2, j3, j4]) rfl ⟨rfl, ?_⟩
    refine midq_end2 HQM.out H.out.words hbp HR4.out ((Part.refl _ _).drewN _) HP4.out ?_
    repeat (first | (with_reducible exact Part.refl _ _) | refine Part.set ?_ (by simp) _)
theorem ngather_more {w : World} {br bk bw bp : Nat} {wd x last n saw put ans why q : Int} {ws : List Int} {t c : Nat} {nx : Value} (h : Rng w br bk bw wd ws) (hp : Row w bp 77 (pendN br (t : Int) last n saw put nx ans why))
    (ht : t ≤ 4294967295) (hc : t % ws.length = c) (hx : ws[c]? = some x) (ux : U64 x) (a0 : 0 ≤ ans) (a1 : ans ≤ 17592186044416) (hq : cntN x (t : Int) = q) (hl : ¬ (t : Int) = last) :
    Calls Try.prog 29 #[.pointer (some ⟨bp, 0, none⟩)] w (SteppedN w bk bw bp ws (pendN br ((t : Int) + 1) last n saw put nx (ans + q) why) (.agg #[.int .u8 1, .int .i64 (c : Int), .int .u64 x, .int .u64 x, .bool true])) := by
  obtain ⟨c0, c1, c2, c3, c4, c5, c6, c7, c8⟩ := pendN_cells hp
  have q0 := (cntN_lo ux (t : Int)).1
  have q1 := (cntN_lo ux (t : Int)).2
  rw [hq] at q0 q1
  have dl : ((t : Int) == last) = false := by simpa using hl
  clear hl
  have hbp := hp.lt
  have hbw := h.words.row.lt
  have e5 : ¬ bp = w.heap.size := by omega
  have e6 : ¬ w.heap.size = bp := by omega
  have H := Lib.hid h
  have HP := Lib.hid hp
  have HC := Lib.hid hc
  have HX := Lib.hid hx
  have HU := Lib.hid ux
  have HQ := Lib.hid hq
  clear h hp hc hx ux hq c1 c2 c3 c4 c5 c6 c7 c8
  go_enter Try.func29, Try.ntmps29
  go_wp2_with (go_at_call 35; refine (nact_load (H.out.alloc _) (HP.out.alloc _) ht HC.out HX.out).mono ?_; rintro e w2 ⟨rfl, hW2, hP2⟩; have HM := Lib.hid (midn_a H.out.words HP.out hW2 hP2 (did := [.int .u8 1, .int .i64 (c : Int), .int .u64 x, .int .u64 x, .bool true])); clear hW2 hP2; have hg := HM.out.lo; obtain ⟨p0, p1, p2, p3, p4, p5, p6, p7, p8⟩ := pendN_cells HM.out.pend; have pf := HM.out.pend.free; have plt := HM.out.pend.lt; have hdd := HM.out.did; obtain ⟨g0, g1, g2, g3, g4⟩ := hdd.five; have glt := hdd.lt; have hb4 := HM.out.res; unfold noDid at hb4; obtain ⟨x0, x1, x2, x3, x4⟩ := hb4.five; have xf := hb4.free; have xlt := hb4.lt; clear hdd hb4)
  have e1 : ¬ bp = w2.heap.size := by omega
  have e2 : ¬ w2.heap.size = bp := by omega
  have HS := Lib.hid (MidN.setQ HM.out H.out.words hbp (l' := pendN br (t : Int) last n saw put nx (ans + q) why) (i := 7) (v := .int .u64 (IntKind.u64.wrap (ans + q))) (by rw [wrap_is (by omega) (by omega)]; rfl))
  go_upto_region 2 with fail
  go_cut [9] (fun _ wx => MidQ w bk bw bp ws (pendN br (t : Int) last n saw put nx (ans + q) why) [.int .u8 1, .int .i64 (c : Int), .int .u64 x, .int .u64 x, .bool true] w2.heap.size wx)
  case first =>
    go_region_with ((go_at_call 33; (with_reducible refine (rcount_at HU.out HQ.out _).mono ?_); rintro e w5 ⟨rfl, rfl⟩))
    all_goals
      go_wp2_with fail
      go_meet
      exact HS.out
  case rest =>
    clear p0 p1 p2 p3 p4 p5 p6 p7 p8 pf plt g0 g1 g2 g3 g4 glt x0 x1 x2 x3 x4 xf xlt HS
    obtain ⟨p0, p1, p2, p3, p4, p5, p6, p7, p8⟩ := pendN_cells hcut.pend
    have pf := hcut.pend.free
    have plt := hcut.pend.lt
    have hdd := hcut.did
    obtain ⟨g0, g1, g2, g3, g4⟩ := hdd.five
    have glt := hdd.lt
    have hb4 := hcut.res
    unfold noDid at hb4
    obtain ⟨x0, x1, x2, x3, x4⟩ := hb4.five
    have xf := hb4.free
    have xlt := hb4.lt
    have HQM := Lib.hid hcut
    clear hdd hb4 hcut
    go_wp2
    go_quiet (fail)
    go_wp2
    refine bodyPost_ret (v := .agg #[.int .u8 1, .int .i64 (c : Int), .int .u64 x, .int .u64 x, .bool true]) (by simp [results, Try.results29, go_sem, x0, x1, x2, x3, x4]) rfl ⟨rfl, ?_⟩
    refine midq_end HQM.out H.out.words (l' := (pendN br (t : Int) last n saw put nx (ans + q) why).set 1 (.int .i64 ((t : Int) + 1))) ?_ ?_ (by simp [pendN])
    · repeat (first | (with_reducible exact Part.refl _ _) | (with_reducible refine Part.drew ?_) | (with_reducible refine Part.drewN ?_ _) | refine Part.set ?_ (by simp) _)
    · repeat (first | (with_reducible exact HQM.out.pend) | (with_reducible refine Row.drew ?_) | (with_reducible refine Row.drewN ?_ _) | (with_reducible refine Row.far ?_ (by first | exact e5 | exact e6) _) | (with_reducible refine Row.set ?_ _ _))
end Go.Proofs.Ytjehcgeodcpcaaa
