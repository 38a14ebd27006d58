/- THE WALKS of package snap: swap. -/
import Derived.Test.YtdadgppbpomdoaaPi
namespace Go.Proofs.Ytdadgppbpomdoaa
open Go Go.RowKit

theorem pendP_four {w : World} {bp bk : Nat} {k r v t saw c vc : Int} {nx va vw vr : Value} {cl : Bool} (h : Row w bp 82 (pendP bk k r v t nx saw va vw c vr cl vc)) :
    w.cell? ⟨bp, 0, none⟩ = some (.pointer (some ⟨bk, 0, none⟩)) ∧ w.cell? ⟨bp, 2, none⟩ = some (.int .i64 r) ∧ w.cell? ⟨bp, 3, none⟩ = some (.int .u32 v) ∧ w.cell? ⟨bp, 6, none⟩ = some (.int .u64 saw) := ⟨h.cell 0, h.cell 2, h.cell 3, h.cell 6⟩
theorem PreP.behind {w w1 w2 : World} {bk bw bp : Nat} {ws : List Int} {l : List Value} (h : PreP w bk bw bp ws l w1) (hP : Part [bw] w1 w2) : Row w2 bp 82 l := h.pend.part hP h.off.1
theorem Row.newdid (w : World) : Row (w.alloc (.cells #[.int .u8 0, .int .i64 0, .int .u64 0, .int .u64 0, .bool false] 48)) w.heap.size 48 noDid := Row.new w _ noDid
theorem preP_did {w w1 : World} (hb : Below ((w.alloc (.cells #[.int .u8 0, .int .i64 0, .int .u64 0, .int .u64 0, .bool false] 48)).alloc (.cells #[.int .u8 0, .int .i64 0, .int .u64 0, .int .u64 0, .bool false] 48)).drew.heap.size ((w.alloc (.cells #[.int .u8 0, .int .i64 0, .int .u64 0, .int .u64 0, .bool false] 48)).alloc (.cells #[.int .u8 0, .int .i64 0, .int .u64 0, .int .u64 0, .bool false] 48)).drew w1) : Row w1 (w.heap.size + 1) 48 noDid :=
  (Row.new2 w _ _ noDid rfl).drew.below hb (by simp)
theorem did_row {w1 w2 : World} {g bw : Nat} (h : Row w1 g 48 noDid) (hP : Part [bw] w1 w2) (hb : bw < g) : Row w2 g 48 [.int .u8 0, .int .i64 0, .int .u64 0, .int .u64 0, .bool false] := h.part hP (by simp; omega)
set_option maxHeartbeats 1600000
set_option maxRecDepth 100000
theorem fswap_hit {w : World} {bk bw bp : Nat} {ws : List Int} (h : Words w bk bw ws) {i : Nat} {x v : Int} {nx : Value} (hx : ws[i]? = some x) (hv : U32 v) (hp : Row w bp 82 (pendP bk 1 (i : Int) v 0 nx x nilS nilS 0 nilS false 0)) :
    Calls Try.prog 46 #[.pointer (some ⟨bp, 0, none⟩)] w (EndedP w bk bw bp (ws.set i (afterW x v)) (fun vr => (pendP bk 1 (i : Int) v 0 .nilFunc x nilS nilS 0 vr false 0)) [afterW x v] (.agg #[.int .u8 5, .int .i64 (i : Int), .int .u64 x, .int .u64 (afterW x v), .bool true])) := by
  obtain ⟨c0, c1, c2, c3, c4, c5, c6, c7, c8, c9, c10, c11, c12⟩ := pendP_cells hp
  have hf := hp.free
  have hbp := hp.lt
  have hbw := h.row.lt
  have HBW := Lib.hid hbw
  have HBK := Lib.hid h.head.lt
  have HX := Lib.hid hx
  have H := Lib.hid h
  have HA := Lib.hid (PreP.first h hp)
  have HB := Lib.hid (PreP.second h hp)
  have HO := Lib.hid (h.u64 hx)
  have HV := Lib.hid hv
  have n3 : ¬ w.heap.size + 1 = bp := by omega
  have n4 : ¬ bp = w.heap.size + 1 := by omega
  have HN : Hid (U64 (afterW x v)) := Lib.hid (afterW_u64 hv)
  have HU := HN
  clear hv
  clear h hp hx c4 c5 c7 c8 c9 c10 c11 c12
  go_enter Try.func46, Try.ntmps46
  go_upto_region 1 with fail
  go_cut [3] (fun s3 wx => MidG w bk bw bp (ws.set i (afterW x v)) (pendP bk 1 (i : Int) v 0 nx x nilS nilS 0 nilS false 0) [.int .u8 5, .int .i64 (i : Int), .int .u64 x, .int .u64 (afterW x v), .bool true] s3 wx)
  case first =>
    go_region_held3 (fun w' => w'.cell? ⟨bp, 0, none⟩ = some (.pointer (some ⟨bk, 0, none⟩)) ∧ w'.cell? ⟨bp, 2, none⟩ = some (.int .i64 (i : Int)) ∧ w'.cell? ⟨bp, 3, none⟩ = some (.int .u32 v) ∧ w'.cell? ⟨bp, 6, none⟩ = some (.int .u64 x))
      (first | (with_reducible exact ⟨q0, q2, q3, q6⟩) | (with_reducible exact ⟨f0, f2, f3, f6⟩) | go_keep)
      (first
      | (go_at_call 40; (with_reducible refine (after_any HO.out HV.out (World.drew (World.alloc w _))).mono ?_); rintro e w1 ⟨rfl, hb1⟩; have HA1 := Lib.hid (HA.out.on hb1); have hs1 := HA1.out.pend.lt; have cc := pendP_four HA1.out.pend; have f0 := cc.1; have f2 := cc.2.1; have f3 := cc.2.2.1; have f6 := cc.2.2.2; clear cc; clear hb1)
      | (go_at_call 40; (with_reducible refine (after_any HO.out HV.out (World.drew (World.alloc (World.alloc w _) _))).mono ?_); rintro e w1 ⟨rfl, hb1⟩; have HB1 := Lib.hid (HB.out.on hb1); have HG1 := Lib.hid (preP_did hb1); have hs1 := HB1.out.pend.lt; have cc := pendP_four HB1.out.pend; have f0 := cc.1; have f2 := cc.2.1; have f3 := cc.2.2.1; have f6 := cc.2.2.2; clear cc; clear hb1)
      | (go_at_call 45; (with_reducible refine (do_hit HA1.out.words HX.out HN.out).mono ?_); rintro e w2 ⟨rfl, hW2, hP2⟩; have HPA := Lib.hid hP2; have HWA := Lib.hid hW2; have qlt := (HA1.out.behind hP2).lt; have cc := pendP_four (HA1.out.behind hP2); have q0 := cc.1; have q2 := cc.2.1; have q3 := cc.2.2.1; have q6 := cc.2.2.2; clear cc; clear hW2 hP2)
      | (go_at_call 45; (with_reducible refine (do_hit (HA1.out.words.alloc _) HX.out HN.out).mono ?_); rintro e w2 ⟨rfl, hW2, hP2⟩; have HPM := Lib.hid hP2; have HWM := Lib.hid hW2; have qlt := ((HA1.out.alloc _).behind hP2).lt; have cc := pendP_four ((HA1.out.alloc _).behind hP2); have q0 := cc.1; have q2 := cc.2.1; have q3 := cc.2.2.1; have q6 := cc.2.2.2; clear cc; have hr3 := did_row (Row.newdid w1) hP2 HA1.out.words.row.lt; obtain ⟨b0, b1, b2, b3, b4⟩ := hr3.five; have hf3 := hr3.free; have hlt3 := hr3.lt; clear hr3 hW2 hP2; have n1 : ¬ w1.heap.size = bp := (by omega); have n2 : ¬ bp = w1.heap.size := (by omega))
      | (go_at_call 45; (with_reducible refine (do_hit HB1.out.words HX.out HN.out).mono ?_); rintro e w2 ⟨rfl, hW2, hP2⟩; have HPB := Lib.hid hP2; have HWB := Lib.hid hW2; have qlt := (HB1.out.behind hP2).lt; have cc := pendP_four (HB1.out.behind hP2); have q0 := cc.1; have q2 := cc.2.1; have q3 := cc.2.2.1; have q6 := cc.2.2.2; clear cc; have hr3 := did_row HG1.out hP2 (Nat.lt_succ_of_lt HBW.out); obtain ⟨b0, b1, b2, b3, b4⟩ := hr3.five; have hf3 := hr3.free; have hlt3 := hr3.lt; clear hr3 hW2 hP2))
    all_goals
      go_wp2_with fail
      go_meet
      first | exact ⟨_, rfl, mids_a HA1.out HWA.out HPA.out⟩ | exact ⟨_, rfl, (mids_a HA1.out HWA.out HPA.out).drew⟩ | exact ⟨_, rfl, mids_b (HA1.out.alloc _) (Row.newdid w1) HA1.out.res.lt HWM.out HPM.out hbp HBW.out HBK.out⟩ | exact ⟨_, rfl, (mids_b (HA1.out.alloc _) (Row.newdid w1) HA1.out.res.lt HWM.out HPM.out hbp HBW.out HBK.out).drew⟩ | exact ⟨_, rfl, mids_b HB1.out HG1.out (by omega) HWB.out HPB.out hbp HBW.out HBK.out⟩ | exact ⟨_, rfl, (mids_b HB1.out HG1.out (by omega) HWB.out HPB.out hbp HBW.out HBK.out).drew⟩
  case rest =>
    clear c0 c1 c2 c3 c6 hf HA HB
    obtain ⟨g, rfl, hM⟩ := hcut
    have HM := Lib.hid hM
    obtain ⟨p0, p1, p2, p3, p4, p5, p6, p7, p8, p9, p10, p11, p12⟩ := pendP_cells hM.pend
    have pf := hM.pend.free
    have plt := hM.pend.lt
    obtain ⟨b0, b1, b2, b3, b4⟩ := hM.did.five
    have bf := hM.did.free
    have blt := hM.did.lt
    have hres := hM.res
    unfold noDid at hres
    obtain ⟨d0, d1, d2, d3, d4⟩ := hres.five
    have df := hres.free
    have dlt := hres.lt
    have hg := hM.lo
    have e1 : ¬ bp = g := by omega
    have e2 : ¬ g = bp := by omega
    have e3 : ¬ g = w.heap.size := by omega
    have e4 : ¬ w.heap.size = g := by omega
    have e5 : ¬ bp = w.heap.size := by omega
    have e6 : ¬ w.heap.size = bp := by omega
    clear hM hres
    go_wp2_with (first
      | (go_at_call 37; refine (regsof_one (one_lies _ _) (by simp) HU.out).mono ?_; rintro e w3 ⟨b, rfl, hb, hr, hb3⟩; have HB3 : Hid (Below wc.heap.size wc w3) := Lib.hid (((Below.refl _ _).alloc (Nat.le_refl _) _).trans (hb3.mono (by simp))); have HL3 : Hid (wc.heap.size ≤ b) := Lib.hid (by simp at hb; omega); have HR3 := Lib.hid hr; have HQ3 := Lib.hid (HM.out.pend.below HB3.out HM.out.pend.lt); have HD3 := Lib.hid (HM.out.did.below HB3.out HM.out.did.lt); have HN3 := Lib.hid (HM.out.res.below HB3.out HM.out.res.lt); clear hb hr hb3)
      | (go_at_call 47; refine (pend_any HQ3.out).mono ?_; rintro e w4 ⟨rfl, hR4, hP4⟩; have HR4 := Lib.hid hR4; have HP4 := Lib.hid hP4; have hd4 := HD3.out.part hP4 (by simp; omega); obtain ⟨g0, g1, g2, g3, g4⟩ := hd4.five; have glt := hd4.lt; have hb4 := HN3.out.part hP4 (by simp; omega); unfold noDid at hb4; obtain ⟨h0, h1, h2, h3, h4⟩ := hb4.five; have hhf := hb4.free; have hhlt := hb4.lt; clear hR4 hP4 hd4 hb4))
    refine bodyPost_ret (v := .agg #[.int .u8 5, .int .i64 (i : Int), .int .u64 x, .int .u64 (afterW x v), .bool true]) (by simp [results, Try.results46, go_sem, h0, h1, h2, h3, h4]) rfl ⟨b, rfl, ?_⟩
    refine ended_end HM.out H.out hbp HB3.out HL3.out HR3.out HR4.out HP4.out ?_
    repeat (first | (with_reducible exact Part.refl _ _) | refine Part.set ?_ (by simp) _)
theorem fswap_miss {w : World} {bk bw bp : Nat} {ws : List Int} (h : Words w bk bw ws) {i : Nat} {x o v : Int} {nx : Value} (hx : ws[i]? = some x) (ho : U64 o) (hne : ¬ x = o) (hv : U32 v) (hp : Row w bp 82 (pendP bk 1 (i : Int) v 0 nx o nilS nilS 0 nilS false 0)) :
    Calls Try.prog 46 #[.pointer (some ⟨bp, 0, none⟩)] w (SteppedP w bk bw bp ws (pendP bk 1 (i : Int) v 0 (fnV 30) o nilS nilS 0 nilS false 0) (.agg #[.int .u8 5, .int .i64 (i : Int), .int .u64 x, .int .u64 x, .bool false])) := by
  obtain ⟨c0, c1, c2, c3, c4, c5, c6, c7, c8, c9, c10, c11, c12⟩ := pendP_cells hp
  have hf := hp.free
  have hbp := hp.lt
  have hbw := h.row.lt
  have HBW := Lib.hid hbw
  have HBK := Lib.hid h.head.lt
  have HX := Lib.hid hx
  have H := Lib.hid h
  have HA := Lib.hid (PreP.first h hp)
  have HB := Lib.hid (PreP.second h hp)
  have HO := Lib.hid ho
  have HV := Lib.hid hv
  have HNE := Lib.hid hne
  have n3 : ¬ w.heap.size + 1 = bp := by omega
  have n4 : ¬ bp = w.heap.size + 1 := by omega
  clear hv ho hne
  clear h hp hx c4 c5 c7 c8 c9 c10 c11 c12
  go_enter Try.func46, Try.ntmps46
  go_upto_region 1 with fail
  go_cut [3] (fun s3 wx => MidG w bk bw bp ws (pendP bk 1 (i : Int) v 0 nx o nilS nilS 0 nilS false 0) [.int .u8 5, .int .i64 (i : Int), .int .u64 x, .int .u64 x, .bool false] s3 wx)
  case first =>
    go_region_held3 (fun w' => w'.cell? ⟨bp, 0, none⟩ = some (.pointer (some ⟨bk, 0, none⟩)) ∧ w'.cell? ⟨bp, 2, none⟩ = some (.int .i64 (i : Int)) ∧ w'.cell? ⟨bp, 3, none⟩ = some (.int .u32 v) ∧ w'.cell? ⟨bp, 6, none⟩ = some (.int .u64 o))
      (first | (with_reducible exact ⟨q0, q2, q3, q6⟩) | (with_reducible exact ⟨f0, f2, f3, f6⟩) | go_keep)
      (first
      | (go_at_call 40; (with_reducible refine (after_any HO.out HV.out (World.drew (World.alloc w _))).mono ?_); rintro e w1 ⟨rfl, hb1⟩; have HA1 := Lib.hid (HA.out.on hb1); have hs1 := HA1.out.pend.lt; have cc := pendP_four HA1.out.pend; have f0 := cc.1; have f2 := cc.2.1; have f3 := cc.2.2.1; have f6 := cc.2.2.2; clear cc; clear hb1)
      | (go_at_call 40; (with_reducible refine (after_any HO.out HV.out (World.drew (World.alloc (World.alloc w _) _))).mono ?_); rintro e w1 ⟨rfl, hb1⟩; have HB1 := Lib.hid (HB.out.on hb1); have HG1 := Lib.hid (preP_did hb1); have hs1 := HB1.out.pend.lt; have cc := pendP_four HB1.out.pend; have f0 := cc.1; have f2 := cc.2.1; have f3 := cc.2.2.1; have f6 := cc.2.2.2; clear cc; clear hb1)
      | (go_at_call 45; (with_reducible refine (do_miss HA1.out.words HX.out HNE.out).mono ?_); rintro e w2 ⟨rfl, hW2, hP2⟩; have HPA := Lib.hid hP2; have HWA := Lib.hid hW2; have qlt := (HA1.out.behind hP2).lt; have cc := pendP_four (HA1.out.behind hP2); have q0 := cc.1; have q2 := cc.2.1; have q3 := cc.2.2.1; have q6 := cc.2.2.2; clear cc; clear hW2 hP2)
      | (go_at_call 45; (with_reducible refine (do_miss (HA1.out.words.alloc _) HX.out HNE.out).mono ?_); rintro e w2 ⟨rfl, hW2, hP2⟩; have HPM := Lib.hid hP2; have HWM := Lib.hid hW2; have qlt := ((HA1.out.alloc _).behind hP2).lt; have cc := pendP_four ((HA1.out.alloc _).behind hP2); have q0 := cc.1; have q2 := cc.2.1; have q3 := cc.2.2.1; have q6 := cc.2.2.2; clear cc; have hr3 := did_row (Row.newdid w1) hP2 HA1.out.words.row.lt; obtain ⟨b0, b1, b2, b3, b4⟩ := hr3.five; have hf3 := hr3.free; have hlt3 := hr3.lt; clear hr3 hW2 hP2; have n1 : ¬ w1.heap.size = bp := (by omega); have n2 : ¬ bp = w1.heap.size := (by omega))
      | (go_at_call 45; (with_reducible refine (do_miss HB1.out.words HX.out HNE.out).mono ?_); rintro e w2 ⟨rfl, hW2, hP2⟩; have HPB := Lib.hid hP2; have HWB := Lib.hid hW2; have qlt := (HB1.out.behind hP2).lt; have cc := pendP_four (HB1.out.behind hP2); have q0 := cc.1; have q2 := cc.2.1; have q3 := cc.2.2.1; have q6 := cc.2.2.2; clear cc; have hr3 := did_row HG1.out hP2 (Nat.lt_succ_of_lt HBW.out); obtain ⟨b0, b1, b2, b3, b4⟩ := hr3.five; have hf3 := hr3.free; have hlt3 := hr3.lt; clear hr3 hW2 hP2))
    all_goals
      go_wp2_with fail
      go_meet
      first | exact ⟨_, rfl, mids_a HA1.out HWA.out HPA.out⟩ | exact ⟨_, rfl, (mids_a HA1.out HWA.out HPA.out).drew⟩ | exact ⟨_, rfl, mids_b (HA1.out.alloc _) (Row.newdid w1) HA1.out.res.lt HWM.out HPM.out hbp HBW.out HBK.out⟩ | exact ⟨_, rfl, (mids_b (HA1.out.alloc _) (Row.newdid w1) HA1.out.res.lt HWM.out HPM.out hbp HBW.out HBK.out).drew⟩ | exact ⟨_, rfl, mids_b HB1.out HG1.out (by omega) HWB.out HPB.out hbp HBW.out HBK.out⟩ | exact ⟨_, rfl, (mids_b HB1.out HG1.out (by omega) HWB.out HPB.out hbp HBW.out HBK.out).drew⟩
  case rest =>
    clear c0 c1 c2 c3 c6 hf HA HB
    obtain ⟨g, rfl, hM⟩ := hcut
    have HM := Lib.hid hM
    obtain ⟨p0, p1, p2, p3, p4, p5, p6, p7, p8, p9, p10, p11, p12⟩ := pendP_cells hM.pend
    have pf := hM.pend.free
    have plt := hM.pend.lt
    obtain ⟨b0, b1, b2, b3, b4⟩ := hM.did.five
    have bf := hM.did.free
    have blt := hM.did.lt
    have hres := hM.res
    unfold noDid at hres
    obtain ⟨d0, d1, d2, d3, d4⟩ := hres.five
    have df := hres.free
    have dlt := hres.lt
    have hg := hM.lo
    have e1 : ¬ bp = g := by omega
    have e2 : ¬ g = bp := by omega
    have e3 : ¬ g = w.heap.size := by omega
    have e4 : ¬ w.heap.size = g := by omega
    have e5 : ¬ bp = w.heap.size := by omega
    have e6 : ¬ w.heap.size = bp := by omega
    clear hM hres
    go_wp2
    refine bodyPost_ret (v := .agg #[.int .u8 5, .int .i64 (i : Int), .int .u64 x, .int .u64 x, .bool false]) (by simp [results, Try.results46, go_sem, d0, d1, d2, d3, d4]) rfl ⟨rfl, ?_⟩
    refine mids_end HM.out H.out (l' := (pendP bk 1 (i : Int) v 0 nx o nilS nilS 0 nilS false 0).set 5 (.func (.func 30) #[] #[])) ?_ ?_ (by simp [pendP, fnV])
    · repeat (first | (with_reducible exact Part.refl _ _) | (with_reducible refine Part.drewN ?_ _) | (with_reducible refine Part.alloc ?_ _) | refine Part.set ?_ (by simp) _)
    · repeat (first | (with_reducible exact HM.out.pend) | (with_reducible refine Row.drewN ?_ _) | (with_reducible refine Row.alloc ?_ _) | (with_reducible refine Row.far ?_ (by first | exact e5 | exact e6) _) | (with_reducible refine Row.set ?_ _ _))
end Go.Proofs.Ytdadgppbpomdoaa
