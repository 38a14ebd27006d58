/- THE WALKS of package tokens: swap, not done. -/
import Derived.Test.YtcocegneegjcpaaTe
namespace Go.Proofs.Ytcocegneegjcpaa
open Go Go.RowKit

set_option maxHeartbeats 1600000
set_option maxRecDepth 100000
theorem fswap_miss {w : World} {bt bk bw bp : Nat} {ev bu T t n saw put wait left : Int} {ok : Bool} {nx : Value} (h : Buck w bt bk bw ev bu T) (hp : Row w bp 140 (pendT bt t n saw put nx ok wait left)) (hne : ¬ T = saw) :
    Calls Try.prog 95 #[.pointer (some ⟨bp, 0, none⟩)] w (SteppedT w bk bw bp T (pendT bt t n saw put (fnV 76) ok wait left) (.agg #[.int .u8 5, .int .i64 0, .int .u64 T, .int .u64 T, .bool false])) := by
  obtain ⟨c0, c1, c2, c3, c4, c5, c6, c7, c8⟩ := pendT_cells hp
  obtain ⟨k0, k1, k2⟩ := h.cells
  have hf := hp.free
  have hbp := hp.lt
  have hbt := h.head.lt
  have hbw := h.words.row.lt
  have HM1 : Hid (w.heap.size + 1 ∉ [bw]) := Lib.hid (by simp; omega)
  have HY := Lib.hid hne
  have n1 : ¬ w.heap.size + 1 = bp := by omega
  have n2 : ¬ bp = w.heap.size + 1 := by omega
  have n3 : ¬ w.heap.size + 1 = bt := by omega
  have n4 : ¬ bt = w.heap.size + 1 := by omega
  have HNB : Hid (bp ∉ [bw]) := Lib.hid (by simpa using hp.ne h.words.row (by decide))
  have HNT : Hid (bt ∉ [bw]) := Lib.hid (by simpa using h.ne)
  have HH := Lib.hid h.head
  have H := Lib.hid h.words
  have HP := Lib.hid hp
  clear h hp hne
  clear c1 c2 c5 c6 c7 c8 k1 k2 hf
  go_enter Try.func95, Try.ntmps95
  go_upto_region 1 with fail
  go_cut [3] (fun s3 wx => MidG w bk bw bp [T] (pendT bt t n saw put nx ok wait left) [.int .u8 5, .int .i64 0, .int .u64 T, .int .u64 T, .bool false] s3 wx)
  case first =>
    go_region_held3 (fun w' => w'.cell? ⟨bp, 0, none⟩ = some (.pointer (some ⟨bt, 0, none⟩)) ∧ w'.cell? ⟨bp, 3, none⟩ = some (.int .u64 saw) ∧ w'.cell? ⟨bp, 4, none⟩ = some (.int .u64 put) ∧ w'.cell? ⟨bt, 0, none⟩ = some (.pointer (some ⟨bk, 0, none⟩)))
      (first | (with_reducible exact ⟨q0, q3, q4, qu⟩) | go_keep)
      (first
      | (go_at_call 81; (with_reducible refine (tdo_miss (H.out.alloc _).drew HY.out).mono ?_); rintro e w2 ⟨rfl, hW2, hP2⟩; have hpr := Row.part (Row.drew (HP.out.alloc _)) hP2 HNB.out; obtain ⟨q0, q1, q2, q3, q4, q5, q6, q7, q8⟩ := pendT_cells hpr; have qu := (Row.part (Row.drew (HH.out.alloc _)) hP2 HNT.out).cell 0; have qlt := hpr.lt; have HMA := Lib.hid (mids_a H.out HP.out hW2 hP2 (did := [.int .u8 5, .int .i64 0, .int .u64 T, .int .u64 T, .bool false])); clear hpr hW2 hP2)
      | (go_at_call 81; (with_reducible refine (tdo_miss ((H.out.alloc _).alloc _).drew HY.out).mono ?_); rintro e w2 ⟨rfl, hW2, hP2⟩; have hpr := Row.part (Row.drew ((HP.out.alloc _).alloc _)) hP2 HNB.out; obtain ⟨q0, q1, q2, q3, q4, q5, q6, q7, q8⟩ := pendT_cells hpr; have qu := (Row.part (Row.drew ((HH.out.alloc _).alloc _)) hP2 HNT.out).cell 0; have HMB := Lib.hid (mids_b H.out HP.out hW2 hP2 (k := 5) (c := 0) (saw := T) (put := T) (ok := false)); have hr3 : Row w2 (w.heap.size + 1) 45 noDid := Row.part (Row.new2 w _ _ _ rfl).drew hP2 HM1.out; unfold noDid at hr3; obtain ⟨b0, b1, b2, b3, b4⟩ := hr3.five; have hf3 := hr3.free; have hlt3 := hr3.lt; clear hpr hr3 hW2 hP2))
    all_goals
      go_wp2_with fail
      go_meet
      first | exact ⟨_, rfl, HMA.out⟩ | exact ⟨_, rfl, HMB.out⟩ | exact ⟨_, rfl, HMA.out.drew⟩ | exact ⟨_, rfl, HMB.out.drew⟩
  case rest =>
    obtain ⟨g, rfl, hM⟩ := hcut
    have HM := Lib.hid hM
    obtain ⟨p0, p1, p2, p3, p4, p5, p6, p7, p8⟩ := pendT_cells hM.pend
    have pf := hM.pend.free
    have plt := hM.pend.lt
    obtain ⟨b0, b1, b2, b3, b4⟩ := hM.did.five
    have bf := hM.did.free
    have blt := hM.did.lt
    have hres := hM.res
    unfold noDid at hres
    obtain ⟨d0, d1, d2, d3, d4⟩ := hres.five
    have df := hres.free
    have dlt := hres.lt
    have hg := hM.lo
    have e1 : ¬ bp = g := by omega
    have e2 : ¬ g = bp := by omega
    have e3 : ¬ g = w.heap.size := by omega
    have e4 : ¬ w.heap.size = g := by omega
    have e5 : ¬ bp = w.heap.size := by omega
    have e6 : ¬ w.heap.size = bp := by omega
    clear hM hres
    go_wp2
    refine bodyPost_ret (v := .agg #[.int .u8 5, .int .i64 0, .int .u64 T, .int .u64 T, .bool false]) (by simp [results, Try.results95, go_sem, d0, d1, d2, d3, d4]) rfl ⟨rfl, ?_⟩
    refine mids_end HM.out H.out hbp (l' := (pendT bt t n saw put nx ok wait left).set 5 (.func (.func 76) #[] #[])) ?_ ?_ (by simp [pendT, fnV])
    · repeat (refine Part.set ?_ (by simp) _)
      exact Part.refl _ _
    · repeat (first | (with_reducible exact HM.out.pend) | (with_reducible refine Row.far ?_ (by first | exact e1 | exact e2 | exact e5 | exact e6) _) | (with_reducible refine Row.set ?_ _ _))
end Go.Proofs.Ytcocegneegjcpaa
