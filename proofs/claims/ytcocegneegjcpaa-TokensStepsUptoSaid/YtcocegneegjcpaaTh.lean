/- THE WALKS of package tokens: peek. -/
import Derived.Test.YtcocegneegjcpaaTe
namespace Go.Proofs.Ytcocegneegjcpaa
open Go Go.RowKit

set_option maxHeartbeats 1600000
set_option maxRecDepth 100000
theorem fpeek_any {w : World} {bt bk bw bp : Nat} {ev bu T t n saw put wait left m D r : Int} {nx : Value} {ok : Bool} (h : Buck w bt bk bw ev bu T) (hp : Row w bp 140 (pendT bt t n saw put nx ok wait left))
    (ht : 0 ≤ t) (ht' : t ≤ 2305843009213693952) (hm : max T t = m) (hD : bu * ev = D) (hr : max 0 (t + D - m) = r) :
    Calls Try.prog 77 #[.pointer (some ⟨bp, 0, none⟩)] w (SteppedT w bk bw bp T (pendT bt t n saw put .nilFunc false 0 (r / ev)) (.agg #[.int .u8 1, .int .i64 0, .int .u64 T, .int .u64 T, .bool true])) := by
  obtain ⟨c0, c1, c2, c3, c4, c5, c6, c7, c8⟩ := pendT_cells hp
  obtain ⟨k0, k1, k2⟩ := h.cells
  obtain ⟨d0, d1⟩ := h.depth
  obtain ⟨f0, f1, f2, f3⟩ := fits_bounds h.fits
  have l0 := h.lo
  have l1 := h.hi
  have m0 : 0 ≤ m := by omega
  have m1 : m ≤ 3458764513820540928 := by omega
  have hf := hp.free
  have hbp := hp.lt
  have hbt := h.head.lt
  have hbw := h.words.row.lt
  rw [hD] at d0 d1
  have r0 : 0 ≤ r := by omega
  have r1 : r ≤ 3458764513820540928 := by omega
  have e5 : ¬ bp = w.heap.size := by omega
  have e6 : ¬ w.heap.size = bp := by omega
  have hev : ¬ ev = 0 := by omega
  have H := Lib.hid h
  have HP := Lib.hid hp
  have HM := Lib.hid hm
  have HD := Lib.hid hD
  have HR := Lib.hid hr
  have HWr : Hid (IntKind.i64.wrap (t + D - m) = t + D - m) := Lib.hid (IntWalk.i64_in _ (by omega))
  clear h hp hm hD hr
  go_enter Try.func77, Try.ntmps77
  go_upto_region 3 with (go_at_call 81; refine (tdo_load (H.out.alloc _).words).mono ?_; rintro e w2 ⟨rfl, hW2, hP2⟩; have HX := Lib.hid (mid_t H.out HP.out hW2 l0 l1 hP2); clear hW2 hP2; have HX0 := HX.out.res; unfold noDid at HX0; obtain ⟨b0, b1, b2, b3, b4⟩ := HX0.five; have bf := HX0.free; have blt := HX0.lt; clear HX0; obtain ⟨p0, p1, p2, p3, p4, p5, p6, p7, p8⟩ := pendT_cells HX.out.pend; have pf := HX.out.pend.free; have plt := HX.out.pend.lt; obtain ⟨u0, u1, u2⟩ := HX.out.buck.cells; have ult := HX.out.buck.head.lt)
  go_cut [6] (fun s6 wx => s6 = .int .i64 r ∧ ∃ k, wx = (w2.alloc (.cells #[.int .u8 1, .int .i64 0, .int .u64 T, .int .u64 T, .bool true] 45)).drewN k)
  case first =>
    go_region_with (first
      | (go_at_call 93; refine (tlimit_at (bk := bk) (bw := bw) (ev := ev) (bu := bu) (T := T) (by repeat (first | exact HX.out.buck.alloc _ | refine Buck.drewN ?_ _ | refine Buck.drew ?_)) ht ht' HD.out).mono ?_; rintro e w3 ⟨rfl, n3, rfl⟩)
      | (go_at_call 92; refine (tspent_at (bt := bt) (t := t) (n := n) (saw := saw) (put := put) (wait := wait) (left := left) (nx := nx) (ok := ok) (by repeat (first | exact HX.out.pend.alloc _ | refine Row.drewN ?_ _ | refine Row.drew ?_)) l0 l1 HM.out).mono ?_; rintro e w3 ⟨rfl, rfl⟩))
    all_goals
      go_wp2_with fail
      all_goals
        go_meet
        exact ⟨congrArg (Value.int .i64) (by have := HR.out; have := HWr.out; omega), _, rfl⟩
  case rest =>
    obtain ⟨rfl, k, rfl⟩ := hcut
    go_wp2_with (go_at_call 94; refine (tend_any ((HX.out.pend.alloc _).drewN _)).mono ?_; rintro e w4 ⟨rfl, hR4, hP4⟩; have HR4 := Lib.hid hR4; have HP4 := Lib.hid hP4; have hd4 : Row w4 w2.heap.size 45 [.int .u8 1, .int .i64 0, .int .u64 T, .int .u64 T, .bool true] := Row.part ((Row.new w2 _ _).drewN _) hP4 (by simp; omega); obtain ⟨g0, g1, g2, g3, g4⟩ := hd4.five; have glt := hd4.lt; have hb4 : Row w4 w.heap.size 45 noDid := Row.part ((HX.out.res.alloc _).drewN _) hP4 (by simp; omega); unfold noDid at hb4; obtain ⟨b0, b1, b2, b3, b4⟩ := hb4.five; have bf := hb4.free; have blt := hb4.lt; clear hR4 hP4 hd4 hb4)
    refine bodyPost_ret (v := .agg #[.int .u8 1, .int .i64 0, .int .u64 T, .int .u64 T, .bool true]) (by simp [results, Try.results77, go_sem, b0, b1, b2, b3, b4]) rfl ⟨rfl, ?_⟩
    refine mid_fin2 HX.out H.out.words HR4.out HP4.out ?_
    repeat (first | (with_reducible exact Part.refl _ _) | refine Part.set ?_ (by simp) _)
end Go.Proofs.Ytcocegneegjcpaa
