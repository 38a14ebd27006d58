/- THE WALKS of package ring: swap. -/
import Derived.Test.YtjehcgeodcpcaaaKd
namespace Go.Proofs.Ytjehcgeodcpcaaa
open Go Go.RowKit

set_option maxHeartbeats 1600000
set_option maxRecDepth 100000
theorem nswap_hit {w : World} {br bk bw bp : Nat} {wd x last n put ans why : Int} {ws : List Int} {t c : Nat} {nx : Value} (h : Rng w br bk bw wd ws) (hp : Row w bp 77 (pendN br (t : Int) last n x put nx ans why))
    (ht : t ≤ 4294967295) (hc : t % ws.length = c) (hx : ws[c]? = some x) (hy : U64 put) :
    Calls Try.prog 39 #[.pointer (some ⟨bp, 0, none⟩)] w (SteppedN w bk bw bp (ws.set c put) (pendN br (t : Int) last n x put .nilFunc ans 0) (.agg #[.int .u8 5, .int .i64 (c : Int), .int .u64 x, .int .u64 put, .bool true])) := by
  obtain ⟨c0, c1, c2, c3, c4, c5, c6, c7, c8⟩ := pendN_cells hp
  have hbp := hp.lt
  have hbw := h.words.row.lt
  have HM1 : Hid (w.heap.size + 1 ∉ [bw]) := Lib.hid (by simp; omega)
  have n1 : ¬ w.heap.size + 1 = bp := by omega
  have n2 : ¬ bp = w.heap.size + 1 := by omega
  have HNB : Hid (bp ∉ [bw]) := Lib.hid (by simpa using hp.ne h.words.row (by decide))
  have H := Lib.hid h
  have HP := Lib.hid hp
  have HC := Lib.hid hc
  have HX := Lib.hid hx
  have HY := Lib.hid hy
  clear h hp hc hx hy c0 c1 c2 c3 c6 c7 c8
  go_enter Try.func39, Try.ntmps39
  go_upto_region 1 with fail
  go_cut [3] (fun s3 wx => MidNv w bk bw bp (ws.set c put) (pendN br (t : Int) last n x put nx ans why) [.int .u8 5, .int .i64 (c : Int), .int .u64 x, .int .u64 put, .bool true] s3 wx)
  case first =>
    go_region_held3 (fun w' => w'.cell? ⟨bp, 4, none⟩ = some (.int .u64 x) ∧ w'.cell? ⟨bp, 5, none⟩ = some (.int .u64 put))
      (first | (with_reducible exact ⟨q4, q5⟩) | go_keep)
      (first
      | (go_at_call 35; (with_reducible refine (nact_hit (H.out.alloc _).drew (HP.out.alloc _).drew ht HC.out HX.out HY.out).mono ?_); rintro e w2 ⟨rfl, hW2, hP2⟩; have hpr := Row.part (Row.drew (HP.out.alloc _)) hP2 HNB.out; obtain ⟨q0, q1, q2, q3, q4, q5, q6, q7, q8⟩ := pendN_cells hpr; have qlt := hpr.lt; clear hpr; have HMA := Lib.hid (midn_a' H.out.words HP.out hW2 hP2 (did := [.int .u8 5, .int .i64 (c : Int), .int .u64 x, .int .u64 put, .bool true])); clear hW2 hP2)
      | (go_at_call 35; (with_reducible refine (nact_hit ((H.out.alloc _).alloc _).drew ((HP.out.alloc _).alloc _).drew ht HC.out HX.out HY.out).mono ?_); rintro e w2 ⟨rfl, hW2, hP2⟩; have hpr := Row.part (Row.drew ((HP.out.alloc _).alloc _)) hP2 HNB.out; obtain ⟨q0, q1, q2, q3, q4, q5, q6, q7, q8⟩ := pendN_cells hpr; clear hpr; have HMB := Lib.hid (midn_b H.out.words HP.out hW2 hP2 (k := 5) (c := (c : Int)) (saw := x) (put := put) (ok := true)); have hr3 : Row w2 (w.heap.size + 1) 48 noDid := Row.part (Row.new2 w _ _ _ rfl).drew hP2 HM1.out; unfold noDid at hr3; obtain ⟨b0, b1, b2, b3, b4⟩ := hr3.five; have hf3 := hr3.free; have hlt3 := hr3.lt; clear hr3 hW2 hP2))
    all_goals
      go_wp2_with fail
      go_meet
      first | exact ⟨_, rfl, HMA.out⟩ | exact ⟨_, rfl, HMB.out⟩ | exact ⟨_, rfl, HMA.out.drew⟩ | exact ⟨_, rfl, HMB.out.drew⟩
  case rest =>
    obtain ⟨g, rfl, hM⟩ := hcut
    have HM := Lib.hid hM
    obtain ⟨p0, p1, p2, p3, p4, p5, p6, p7, p8⟩ := pendN_cells hM.pend
    have pf := hM.pend.free
    have plt := hM.pend.lt
    obtain ⟨b0, b1, b2, b3, b4⟩ := hM.did.five
    have bf := hM.did.free
    have blt := hM.did.lt
    have hres := hM.res
    unfold noDid at hres
    obtain ⟨d0, d1, d2, d3, d4⟩ := hres.five
    have df := hres.free
    have dlt := hres.lt
    have hg := hM.lo
    have e1 : ¬ bp = g := by omega
    have e2 : ¬ g = bp := by omega
    have e3 : ¬ g = w.heap.size := by omega
    have e4 : ¬ w.heap.size = g := by omega
    have e5 : ¬ bp = w.heap.size := by omega
    have e6 : ¬ w.heap.size = bp := by omega
    clear hM hres
    go_wp2_with (go_at_call 37; refine (nend_any HM.out.pend ans 0).mono ?_; rintro e w4 ⟨rfl, hR4, hP4⟩; have HR4 := Lib.hid hR4; have HP4 := Lib.hid hP4; have hd4 : Row w4 g 48 [.int .u8 5, .int .i64 (c : Int), .int .u64 x, .int .u64 put, .bool true] := Row.part HM.out.did hP4 (by simp; omega); obtain ⟨g0, g1, g2, g3, g4⟩ := hd4.five; have glt := hd4.lt; have hb4 : Row w4 w.heap.size 48 noDid := Row.part HM.out.res hP4 (by simp; omega); unfold noDid at hb4; obtain ⟨x0, x1, x2, x3, x4⟩ := hb4.five; have xf := hb4.free; have xlt := hb4.lt; clear hR4 hP4 hd4 hb4)
    refine bodyPost_ret (v := .agg #[.int .u8 5, .int .i64 (c : Int), .int .u64 x, .int .u64 put, .bool true]) (by simp [results, Try.results39, go_sem, x0, x1, x2, x3, x4]) rfl ⟨rfl, ?_⟩
    refine midn_end2 HM.out H.out.words hbp HR4.out (Part.refl _ _) HP4.out ?_
    repeat (first | (with_reducible exact Part.refl _ _) | refine Part.set ?_ (by simp) _)
theorem nswap_miss {w : World} {br bk bw bp : Nat} {wd x last n saw put ans why : Int} {ws : List Int} {t c : Nat} {nx : Value} (h : Rng w br bk bw wd ws) (hp : Row w bp 77 (pendN br (t : Int) last n saw put nx ans why))
    (ht : t ≤ 4294967295) (hc : t % ws.length = c) (hx : ws[c]? = some x) (hne : ¬ x = saw) :
    Calls Try.prog 39 #[.pointer (some ⟨bp, 0, none⟩)] w (SteppedN w bk bw bp ws (pendN br (t : Int) last n saw put (fnV 27) ans why) (.agg #[.int .u8 5, .int .i64 (c : Int), .int .u64 x, .int .u64 x, .bool false])) := by
  obtain ⟨c0, c1, c2, c3, c4, c5, c6, c7, c8⟩ := pendN_cells hp
  have hbp := hp.lt
  have hbw := h.words.row.lt
  have HM1 : Hid (w.heap.size + 1 ∉ [bw]) := Lib.hid (by simp; omega)
  have n1 : ¬ w.heap.size + 1 = bp := by omega
  have n2 : ¬ bp = w.heap.size + 1 := by omega
  have HNB : Hid (bp ∉ [bw]) := Lib.hid (by simpa using hp.ne h.words.row (by decide))
  have H := Lib.hid h
  have HP := Lib.hid hp
  have HC := Lib.hid hc
  have HX := Lib.hid hx
  have HY := Lib.hid hne
  clear h hp hc hx hne c0 c1 c2 c3 c6 c7 c8
  go_enter Try.func39, Try.ntmps39
  go_upto_region 1 with fail
  go_cut [3] (fun s3 wx => MidNv w bk bw bp ws (pendN br (t : Int) last n saw put nx ans why) [.int .u8 5, .int .i64 (c : Int), .int .u64 x, .int .u64 x, .bool false] s3 wx)
  case first =>
    go_region_held3 (fun w' => w'.cell? ⟨bp, 4, none⟩ = some (.int .u64 saw) ∧ w'.cell? ⟨bp, 5, none⟩ = some (.int .u64 put))
      (first | (with_reducible exact ⟨q4, q5⟩) | go_keep)
      (first
      | (go_at_call 35; (with_reducible refine (nact_miss (H.out.alloc _).drew (HP.out.alloc _).drew ht HC.out HX.out HY.out).mono ?_); rintro e w2 ⟨rfl, hW2, hP2⟩; have hpr := Row.part (Row.drew (HP.out.alloc _)) hP2 HNB.out; obtain ⟨q0, q1, q2, q3, q4, q5, q6, q7, q8⟩ := pendN_cells hpr; have qlt := hpr.lt; clear hpr; have HMA := Lib.hid (midn_a' H.out.words HP.out hW2 hP2 (did := [.int .u8 5, .int .i64 (c : Int), .int .u64 x, .int .u64 x, .bool false])); clear hW2 hP2)
      | (go_at_call 35; (with_reducible refine (nact_miss ((H.out.alloc _).alloc _).drew ((HP.out.alloc _).alloc _).drew ht HC.out HX.out HY.out).mono ?_); rintro e w2 ⟨rfl, hW2, hP2⟩; have hpr := Row.part (Row.drew ((HP.out.alloc _).alloc _)) hP2 HNB.out; obtain ⟨q0, q1, q2, q3, q4, q5, q6, q7, q8⟩ := pendN_cells hpr; clear hpr; have HMB := Lib.hid (midn_b H.out.words HP.out hW2 hP2 (k := 5) (c := (c : Int)) (saw := x) (put := x) (ok := false)); have hr3 : Row w2 (w.heap.size + 1) 48 noDid := Row.part (Row.new2 w _ _ _ rfl).drew hP2 HM1.out; unfold noDid at hr3; obtain ⟨b0, b1, b2, b3, b4⟩ := hr3.five; have hf3 := hr3.free; have hlt3 := hr3.lt; clear hr3 hW2 hP2))
    all_goals
      go_wp2_with fail
      go_meet
      first | exact ⟨_, rfl, HMA.out⟩ | exact ⟨_, rfl, HMB.out⟩ | exact ⟨_, rfl, HMA.out.drew⟩ | exact ⟨_, rfl, HMB.out.drew⟩
  case rest =>
    obtain ⟨g, rfl, hM⟩ := hcut
    have HM := Lib.hid hM
    obtain ⟨p0, p1, p2, p3, p4, p5, p6, p7, p8⟩ := pendN_cells hM.pend
    have pf := hM.pend.free
    have plt := hM.pend.lt
    obtain ⟨b0, b1, b2, b3, b4⟩ := hM.did.five
    have bf := hM.did.free
    have blt := hM.did.lt
    have hres := hM.res
    unfold noDid at hres
    obtain ⟨d0, d1, d2, d3, d4⟩ := hres.five
    have df := hres.free
    have dlt := hres.lt
    have hg := hM.lo
    have e1 : ¬ bp = g := by omega
    have e2 : ¬ g = bp := by omega
    have e3 : ¬ g = w.heap.size := by omega
    have e4 : ¬ w.heap.size = g := by omega
    have e5 : ¬ bp = w.heap.size := by omega
    have e6 : ¬ w.heap.size = bp := by omega
    clear hM hres
    go_wp2
    refine bodyPost_ret (v := .agg #[.int .u8 5, .int .i64 (c : Int), .int .u64 x, .int .u64 x, .bool false]) (by simp [results, Try.results39, go_sem, d0, d1, d2, d3, d4]) rfl ⟨rfl, ?_⟩
    refine midn_end HM.out H.out.words (l' := (pendN br (t : Int) last n saw put nx ans why).set 6 (.func (.func 27) #[] #[])) ?_ ?_ (by simp [pendN, fnV])
    · repeat (refine Part.set ?_ (by simp) _)
      exact Part.refl _ _
    · repeat (first | (with_reducible exact HM.out.pend) | (with_reducible refine Row.far ?_ (by first | exact e1 | exact e2 | exact e5 | exact e6) _) | (with_reducible refine Row.set ?_ _ _))
end Go.Proofs.Ytjehcgeodcpcaaa
