/- THE WALKS of package gauges: store, swap. -/
import Derived.Test.YtcocegneegjcpaaGe
namespace Go.Proofs.Ytcocegneegjcpaa
open Go Go.RowKit

set_option maxHeartbeats 1600000
set_option maxRecDepth 100000
theorem fstore {w : World} {bk bw bp : Nat} {T : Nat} {k : Int} {x saw put ans : Nat} {nx : Value} (h : Words w bk bw [(T : Int)]) (hp : Row w bp 115 (pendG bk k x saw put nx ans)) (lx : B64 x) :
    Calls Try.prog 56 #[.pointer (some ⟨bp, 0, none⟩)] w (SteppedG w bk bw bp (GM.bitsOf x) (pendG bk k x saw put .nilFunc (GM.bitsOf x)) (.agg #[.int .u8 2, .int .i64 0, .int .u64 (T : Int), .int .u64 ((GM.bitsOf x : Nat) : Int), .bool true])) := by
  obtain ⟨c0, c1, c2, c3, c4, c5, c6⟩ := pendG_cells hp
  have hf := hp.free
  have hbp := hp.lt
  have hbw := h.row.lt
  have HM1 : Hid (w.heap.size + 1 ∉ [bw]) := Lib.hid (by simp; omega)
  have HY : Hid (U64 ((GM.bitsOf x : Nat) : Int)) := Lib.hid (b64_u64 (GM.bits_lt lx))
  have LX := Lib.hid lx
  clear lx
  have n1 : ¬ w.heap.size + 1 = bp := by omega
  have n2 : ¬ bp = w.heap.size + 1 := by omega
  have HNB : Hid (bp ∉ [bw]) := Lib.hid (by simpa using hp.ne h.row (by decide))
  have H := Lib.hid h
  have HP := Lib.hid hp
  clear h hp
  clear c1 c3 c4 c5 c6 hf
  go_enter Try.func56, Try.ntmps56
  go_upto_region 1 with fail
  go_cut [3] (fun s3 wx => MidGv w bk bw bp [(((GM.bitsOf x) : Nat) : Int)] (pendG bk k x saw put nx ans) [.int .u8 2, .int .i64 0, .int .u64 (T : Int), .int .u64 ((GM.bitsOf x : Nat) : Int), .bool true] s3 wx)
  case first =>
    go_region_held3 (fun w' => w'.cell? ⟨bp, 0, none⟩ = some (.pointer (some ⟨bk, 0, none⟩)) ∧ w'.cell? ⟨bp, 2, none⟩ = some (.float .f64 x))
      (first | (with_reducible exact ⟨q0, q2⟩) | go_keep)
      (first
      | (go_at_call 18; (with_reducible refine (gbits_any LX.out _).mono ?_); rintro e w5 ⟨rfl, rfl⟩)
      | (go_at_call 81; (with_reducible refine (gdo_store (H.out.alloc _).drew HY.out).mono ?_); rintro e w2 ⟨rfl, hW2, hP2⟩; have hP3 := Part.undrew hP2; have hpr := Row.part (HP.out.alloc _) hP3 HNB.out; obtain ⟨q0, q1, q2, q3, q4, q5, q6⟩ := pendG_cells hpr; have qlt := hpr.lt; have HMA := Lib.hid (midg_a H.out HP.out hW2 hP3 (did := [.int .u8 2, .int .i64 0, .int .u64 (T : Int), .int .u64 ((GM.bitsOf x : Nat) : Int), .bool true])); clear hpr hW2 hP2 hP3)
      | (go_at_call 81; (with_reducible refine (gdo_store ((H.out.alloc _).alloc _).drew HY.out).mono ?_); rintro e w2 ⟨rfl, hW2, hP2⟩; have hP3 := Part.undrew hP2; have hpr := Row.part ((HP.out.alloc _).alloc _) hP3 HNB.out; obtain ⟨q0, q1, q2, q3, q4, q5, q6⟩ := pendG_cells hpr; have HMB := Lib.hid (midg_b H.out HP.out hW2 hP3 (k := 2) (c := 0) (saw := (T : Int)) (put := (((GM.bitsOf x) : Nat) : Int)) (ok := true)); have hr3 : Row w2 (w.heap.size + 1) 45 noDid := Row.part (Row.new2 w _ _ _ rfl) hP3 HM1.out; unfold noDid at hr3; obtain ⟨b0, b1, b2, b3, b4⟩ := hr3.five; have hf3 := hr3.free; have hlt3 := hr3.lt; clear hpr hr3 hW2 hP2 hP3))
    all_goals
      go_wp2_with fail
      go_meet
      first | exact ⟨_, rfl, HMA.out⟩ | exact ⟨_, rfl, HMB.out⟩ | exact ⟨_, rfl, HMA.out.drew⟩ | exact ⟨_, rfl, HMB.out.drew⟩
  case rest =>
    obtain ⟨g, rfl, hM⟩ := hcut
    have HM := Lib.hid hM
    obtain ⟨p0, p1, p2, p3, p4, p5, p6⟩ := pendG_cells hM.pend
    have pf := hM.pend.free
    have plt := hM.pend.lt
    obtain ⟨b0, b1, b2, b3, b4⟩ := hM.did.five
    have bf := hM.did.free
    have blt := hM.did.lt
    have hres := hM.res
    unfold noDid at hres
    obtain ⟨d0, d1, d2, d3, d4⟩ := hres.five
    have df := hres.free
    have dlt := hres.lt
    have hg := hM.lo
    have e1 : ¬ bp = g := by omega
    have e2 : ¬ g = bp := by omega
    have e3 : ¬ g = w.heap.size := by omega
    have e4 : ¬ w.heap.size = g := by omega
    have e5 : ¬ bp = w.heap.size := by omega
    have e6 : ¬ w.heap.size = bp := by omega
    clear hM hres
    go_wp2_with (go_at_call 83; refine (gend_any HM.out.pend (GM.bitsOf x)).mono ?_; rintro e w4 ⟨rfl, hR4, hP4⟩; have HR4 := Lib.hid hR4; have HP4 := Lib.hid hP4; have hd4 := Row.part HM.out.did hP4 (by simp; omega); obtain ⟨g0, g1, g2, g3, g4⟩ := hd4.five; have glt := hd4.lt; have hb4 := Row.part HM.out.res hP4 (by simp; omega); unfold noDid at hb4; obtain ⟨x0, x1, x2, x3, x4⟩ := hb4.five; have xf := hb4.free; have xlt := hb4.lt; clear hR4 hP4 hd4 hb4)
    refine bodyPost_ret (v := .agg #[.int .u8 2, .int .i64 0, .int .u64 (T : Int), .int .u64 ((GM.bitsOf x : Nat) : Int), .bool true]) (by simp [results, Try.results56, go_sem, x0, x1, x2, x3, x4]) rfl ⟨rfl, ?_⟩
    refine midg_end2 HM.out H.out hbp HR4.out HP4.out ?_
    repeat (first | (with_reducible exact Part.refl _ _) | refine Part.set ?_ (by simp) _)
theorem fswap_hit {w : World} {bk bw bp : Nat} {T : Nat} {k : Int} {x put ans : Nat} {nx : Value} (h : Words w bk bw [(T : Int)]) (hp : Row w bp 115 (pendG bk k x T put nx ans)) (hy : B64 put) :
    Calls Try.prog 84 #[.pointer (some ⟨bp, 0, none⟩)] w (SteppedG w bk bw bp put (pendG bk k x T put .nilFunc put) (.agg #[.int .u8 5, .int .i64 0, .int .u64 (T : Int), .int .u64 (put : Int), .bool true])) := by
  obtain ⟨c0, c1, c2, c3, c4, c5, c6⟩ := pendG_cells hp
  have hf := hp.free
  have hbp := hp.lt
  have hbw := h.row.lt
  have HM1 : Hid (w.heap.size + 1 ∉ [bw]) := Lib.hid (by simp; omega)
  have HY : Hid (U64 (put : Int)) := Lib.hid (b64_u64 hy)
  clear hy
  have n1 : ¬ w.heap.size + 1 = bp := by omega
  have n2 : ¬ bp = w.heap.size + 1 := by omega
  have HNB : Hid (bp ∉ [bw]) := Lib.hid (by simpa using hp.ne h.row (by decide))
  have H := Lib.hid h
  have HP := Lib.hid hp
  clear h hp
  clear c1 c2 c5 c6 hf
  go_enter Try.func84, Try.ntmps84
  go_upto_region 1 with fail
  go_cut [3] (fun s3 wx => MidGv w bk bw bp [((put : Nat) : Int)] (pendG bk k x T put nx ans) [.int .u8 5, .int .i64 0, .int .u64 (T : Int), .int .u64 (put : Int), .bool true] s3 wx)
  case first =>
    go_region_held3 (fun w' => w'.cell? ⟨bp, 0, none⟩ = some (.pointer (some ⟨bk, 0, none⟩)) ∧ w'.cell? ⟨bp, 3, none⟩ = some (.int .u64 (T : Int)) ∧ w'.cell? ⟨bp, 4, none⟩ = some (.int .u64 (put : Int)))
      (first | (with_reducible exact ⟨q0, q3, q4⟩) | go_keep)
      (first
      | (go_at_call 81; (with_reducible refine (gdo_hit (H.out.alloc _).drew HY.out).mono ?_); rintro e w2 ⟨rfl, hW2, hP2⟩; have hP3 := Part.undrew hP2; have hpr := Row.part (HP.out.alloc _) hP3 HNB.out; obtain ⟨q0, q1, q2, q3, q4, q5, q6⟩ := pendG_cells hpr; have qlt := hpr.lt; have HMA := Lib.hid (midg_a H.out HP.out hW2 hP3 (did := [.int .u8 5, .int .i64 0, .int .u64 (T : Int), .int .u64 (put : Int), .bool true])); clear hpr hW2 hP2 hP3)
      | (go_at_call 81; (with_reducible refine (gdo_hit ((H.out.alloc _).alloc _).drew HY.out).mono ?_); rintro e w2 ⟨rfl, hW2, hP2⟩; have hP3 := Part.undrew hP2; have hpr := Row.part ((HP.out.alloc _).alloc _) hP3 HNB.out; obtain ⟨q0, q1, q2, q3, q4, q5, q6⟩ := pendG_cells hpr; have HMB := Lib.hid (midg_b H.out HP.out hW2 hP3 (k := 5) (c := 0) (saw := (T : Int)) (put := ((put : Nat) : Int)) (ok := true)); have hr3 : Row w2 (w.heap.size + 1) 45 noDid := Row.part (Row.new2 w _ _ _ rfl) hP3 HM1.out; unfold noDid at hr3; obtain ⟨b0, b1, b2, b3, b4⟩ := hr3.five; have hf3 := hr3.free; have hlt3 := hr3.lt; clear hpr hr3 hW2 hP2 hP3))
    all_goals
      go_wp2_with fail
      go_meet
      first | exact ⟨_, rfl, HMA.out⟩ | exact ⟨_, rfl, HMB.out⟩ | exact ⟨_, rfl, HMA.out.drew⟩ | exact ⟨_, rfl, HMB.out.drew⟩
  case rest =>
    obtain ⟨g, rfl, hM⟩ := hcut
    have HM := Lib.hid hM
    obtain ⟨p0, p1, p2, p3, p4, p5, p6⟩ := pendG_cells hM.pend
    have pf := hM.pend.free
    have plt := hM.pend.lt
    obtain ⟨b0, b1, b2, b3, b4⟩ := hM.did.five
    have bf := hM.did.free
    have blt := hM.did.lt
    have hres := hM.res
    unfold noDid at hres
    obtain ⟨d0, d1, d2, d3, d4⟩ := hres.five
    have df := hres.free
    have dlt := hres.lt
    have hg := hM.lo
    have e1 : ¬ bp = g := by omega
    have e2 : ¬ g = bp := by omega
    have e3 : ¬ g = w.heap.size := by omega
    have e4 : ¬ w.heap.size = g := by omega
    have e5 : ¬ bp = w.heap.size := by omega
    have e6 : ¬ w.heap.size = bp := by omega
    clear hM hres
    go_wp2_with (go_at_call 83; refine (gend_any HM.out.pend put).mono ?_; rintro e w4 ⟨rfl, hR4, hP4⟩; have HR4 := Lib.hid hR4; have HP4 := Lib.hid hP4; have hd4 := Row.part HM.out.did hP4 (by simp; omega); obtain ⟨g0, g1, g2, g3, g4⟩ := hd4.five; have glt := hd4.lt; have hb4 := Row.part HM.out.res hP4 (by simp; omega); unfold noDid at hb4; obtain ⟨x0, x1, x2, x3, x4⟩ := hb4.five; have xf := hb4.free; have xlt := hb4.lt; clear hR4 hP4 hd4 hb4)
    refine bodyPost_ret (v := .agg #[.int .u8 5, .int .i64 0, .int .u64 (T : Int), .int .u64 (put : Int), .bool true]) (by simp [results, Try.results84, go_sem, x0, x1, x2, x3, x4]) rfl ⟨rfl, ?_⟩
    refine midg_end2 HM.out H.out hbp HR4.out HP4.out ?_
    repeat (first | (with_reducible exact Part.refl _ _) | refine Part.set ?_ (by simp) _)
theorem fswap_miss {w : World} {bk bw bp : Nat} {T : Nat} {k : Int} {x saw put ans : Nat} {nx : Value} (h : Words w bk bw [(T : Int)]) (hp : Row w bp 115 (pendG bk k x saw put nx ans)) (hne : ¬ T = saw) :
    Calls Try.prog 84 #[.pointer (some ⟨bp, 0, none⟩)] w (SteppedG w bk bw bp T (pendG bk k x saw put (fnV 55) ans) (.agg #[.int .u8 5, .int .i64 0, .int .u64 (T : Int), .int .u64 (T : Int), .bool false])) := by
  obtain ⟨c0, c1, c2, c3, c4, c5, c6⟩ := pendG_cells hp
  have hf := hp.free
  have hbp := hp.lt
  have hbw := h.row.lt
  have HM1 : Hid (w.heap.size + 1 ∉ [bw]) := Lib.hid (by simp; omega)
  have HY : Hid (¬ (T : Int) = (saw : Int)) := Lib.hid (by omega)
  clear hne
  have n1 : ¬ w.heap.size + 1 = bp := by omega
  have n2 : ¬ bp = w.heap.size + 1 := by omega
  have HNB : Hid (bp ∉ [bw]) := Lib.hid (by simpa using hp.ne h.row (by decide))
  have H := Lib.hid h
  have HP := Lib.hid hp
  clear h hp
  clear c1 c2 c5 c6 hf
  go_enter Try.func84, Try.ntmps84
  go_upto_region 1 with fail
  go_cut [3] (fun s3 wx => MidGv w bk bw bp [((T : Nat) : Int)] (pendG bk k x saw put nx ans) [.int .u8 5, .int .i64 0, .int .u64 (T : Int), .int .u64 (T : Int), .bool false] s3 wx)
  case first =>
    go_region_held3 (fun w' => w'.cell? ⟨bp, 0, none⟩ = some (.pointer (some ⟨bk, 0, none⟩)) ∧ w'.cell? ⟨bp, 3, none⟩ = some (.int .u64 (saw : Int)) ∧ w'.cell? ⟨bp, 4, none⟩ = some (.int .u64 (put : Int)))
      (first | (with_reducible exact ⟨q0, q3, q4⟩) | go_keep)
      (first
      | (go_at_call 81; (with_reducible refine (gdo_miss (H.out.alloc _).drew HY.out).mono ?_); rintro e w2 ⟨rfl, hW2, hP2⟩; have hP3 := Part.undrew hP2; have hpr := Row.part (HP.out.alloc _) hP3 HNB.out; obtain ⟨q0, q1, q2, q3, q4, q5, q6⟩ := pendG_cells hpr; have qlt := hpr.lt; have HMA := Lib.hid (midg_a H.out HP.out hW2 hP3 (did := [.int .u8 5, .int .i64 0, .int .u64 (T : Int), .int .u64 (T : Int), .bool false])); clear hpr hW2 hP2 hP3)
      | (go_at_call 81; (with_reducible refine (gdo_miss ((H.out.alloc _).alloc _).drew HY.out).mono ?_); rintro e w2 ⟨rfl, hW2, hP2⟩; have hP3 := Part.undrew hP2; have hpr := Row.part ((HP.out.alloc _).alloc _) hP3 HNB.out; obtain ⟨q0, q1, q2, q3, q4, q5, q6⟩ := pendG_cells hpr; have HMB := Lib.hid (midg_b H.out HP.out hW2 hP3 (k := 5) (c := 0) (saw := (T : Int)) (put := ((T : Nat) : Int)) (ok := false)); have hr3 : Row w2 (w.heap.size + 1) 45 noDid := Row.part (Row.new2 w _ _ _ rfl) hP3 HM1.out; unfold noDid at hr3; obtain ⟨b0, b1, b2, b3, b4⟩ := hr3.five; have hf3 := hr3.free; have hlt3 := hr3.lt; clear hpr hr3 hW2 hP2 hP3))
    all_goals
      go_wp2_with fail
      go_meet
      first | exact ⟨_, rfl, HMA.out⟩ | exact ⟨_, rfl, HMB.out⟩ | exact ⟨_, rfl, HMA.out.drew⟩ | exact ⟨_, rfl, HMB.out.drew⟩
  case rest =>
    obtain ⟨g, rfl, hM⟩ := hcut
    have HM := Lib.hid hM
    obtain ⟨p0, p1, p2, p3, p4, p5, p6⟩ := pendG_cells hM.pend
    have pf := hM.pend.free
    have plt := hM.pend.lt
    obtain ⟨b0, b1, b2, b3, b4⟩ := hM.did.five
    have bf := hM.did.free
    have blt := hM.did.lt
    have hres := hM.res
    unfold noDid at hres
    obtain ⟨d0, d1, d2, d3, d4⟩ := hres.five
    have df := hres.free
    have dlt := hres.lt
    have hg := hM.lo
    have e1 : ¬ bp = g := by omega
    have e2 : ¬ g = bp := by omega
    have e3 : ¬ g = w.heap.size := by omega
    have e4 : ¬ w.heap.size = g := by omega
    have e5 : ¬ bp = w.heap.size := by omega
    have e6 : ¬ w.heap.size = bp := by omega
    clear hM hres
    go_wp2_with fail
    refine bodyPost_ret (v := .agg #[.int .u8 5, .int .i64 0, .int .u64 (T : Int), .int .u64 (T : Int), .bool false]) (by simp [results, Try.results84, go_sem, d0, d1, d2, d3, d4]) rfl ⟨rfl, ?_⟩
    refine midg_end HM.out H.out hbp (l' := (pendG bk k x saw put nx ans).set 5 (.func (.func 55) #[] #[])) ?_ ?_ (by simp [pendG, fnV])
    · repeat (first | (with_reducible exact Part.refl _ _) | refine Part.set ?_ (by simp) _)
    · repeat (first | (with_reducible exact HM.out.pend) | (with_reducible refine Row.far ?_ (by first | exact e6 | exact e2) _) | (with_reducible refine Row.set ?_ _ _))
end Go.Proofs.Ytcocegneegjcpaa
