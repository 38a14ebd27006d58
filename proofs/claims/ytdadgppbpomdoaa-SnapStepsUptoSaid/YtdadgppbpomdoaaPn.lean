/- THE WALKS of package snap: collect, the last of a collect. -/
import Derived.Test.YtdadgppbpomdoaaPm
namespace Go.Proofs.Ytdadgppbpomdoaa
open Go Go.RowKit

set_option maxHeartbeats 1600000
set_option maxRecDepth 100000
theorem did_off {w wz : World} {lo bk bw bp k gd g cap c : Nat} {ws la lw : List Int} {t : Int} {nx va vw : Value} {did : List Value} (h : AppP w lo bk bw bp ws t nx va vw c la lw k did gd g cap wz) : gd ∉ [bp] := by simpa using h.did.ne h.pend (by decide)
theorem res_off {w wz : World} {lo bk bw bp k gd g cap c : Nat} {ws la lw : List Int} {t : Int} {nx va vw : Value} {did : List Value} (h : AppP w lo bk bw bp ws t nx va vw c la lw k did gd g cap wz) : w.heap.size ∉ [bp] := by simpa using h.res.ne h.pend (by decide)
theorem collect_last {R : Nat → Nat → World → World → Prop} {w : World} {lo bk bw bp k ca cw : Nat} {ws la lw : List Int} {t : Int} {nx : Value} {aa aw : Option Addr} {c : Nat} {x : Int} (h : Words w bk bw ws) (hn : ws.length ≤ 64) (hx : ws[k]? = some x) (hk : lw.length = k)
    (hp : Row w bp 82 (scanL bk t nx (.slice aa la.length ca) (.slice aw k cw) (c : Int) nilS false 0)) (ho : w.ownsRow lo 39 1 (.slice aw k cw) k (u64s lw)) (ha : w.ownsRow lo 39 1 (.slice aa la.length ca) la.length (u64s la)) (hap : (Value.slice aa la.length ca).ownBlock = none ∨ (Value.slice aa la.length ca).ownBlock ≠ (Value.slice aw k cw).ownBlock) (hlo : lo ≤ w.heap.size) (hm : k + 1 = ws.length)
    (hcol : ∀ gd gg gcap wz, AppP w lo bk bw bp ws t nx (.slice aa la.length ca) (.slice aw k cw) c la (lw ++ [x]) k [.int .u8 1, .int .i64 (k : Int), .int .u64 x, .int .u64 x, .bool true] gd gg gcap wz → Calls Try.prog 49 #[.pointer (some ⟨bp, 0, none⟩)] wz fun e w' => e = .returned (.tuple #[]) ∧ R gg gcap wz w' ∧ Part [bp] wz w') :
    Calls Try.prog 32 #[.pointer (some ⟨bp, 0, none⟩)] w (CollectTo w lo bk bw bp ws t nx (.slice aa la.length ca) (.slice aw k cw) c la (lw ++ [x]) k [.int .u8 1, .int .i64 (k : Int), .int .u64 x, .int .u64 x, .bool true] R) := by
  have hq : ((k : Int) + 1 == (ws.length : Int)) = true := by rw [beq_iff_eq]; omega
  have hq' : (((k + 1 : Nat) : Int) == (ws.length : Int)) = true := by rw [beq_iff_eq]; omega
  have HCOL := Lib.hid hcol
  clear hcol
  have HMM := Lib.hid hm
  clear hm
  obtain ⟨c0, c1, c2, c3, c4, c5, c6, c7, c8, c9, c10, c11, c12⟩ := pendP_cells hp
  have hf := hp.free
  have hbp := hp.lt
  have hbw := h.row.lt
  obtain ⟨i0, hi, hz0, hz1, hz2⟩ := info_parts info29
  have HBW := Lib.hid hbw
  have HBK := Lib.hid h.head.lt
  have HX := Lib.hid hx
  have HK := Lib.hid hk
  have H := Lib.hid h
  have HP := Lib.hid hp
  have HO := Lib.hid ho
  have HAH := Lib.hid ha
  have HAP := Lib.hid hap
  have HA := Lib.hid (PreP.first h hp)
  have HB := Lib.hid (PreP.second h hp)
  have hk64 : k < ws.length := lt_of_get hx
  have HOC : ∀ wc : World, Part [bw] w wc → Hid (wc.ownsRow lo 39 1 (.slice aw k cw) k (u64s lw)) := fun wc hP => Lib.hid (own_part ho hP (fun q hq => by simpa using own_off ho h.row (by decide) q hq))
  have HOCH := Lib.hid HOC
  clear h hp hx hk ho ha hap HOC c1 c2 c3 c4 c5 c6 c7 c9 c10 c11 c12
  go_enter Try.func32, Try.ntmps32
  go_upto_region 1 with fail
  go_cut [3] (fun s3 wx => MidG w bk bw bp ws (scanL bk t nx (.slice aa la.length ca) (.slice aw k cw) (c : Int) nilS false 0) [.int .u8 1, .int .i64 (k : Int), .int .u64 x, .int .u64 x, .bool true] s3 wx)
  case first =>
    go_region_with (first
      | (go_at_call 45; (with_reducible refine (do_load (H.out.alloc _).drew HX.out).mono ?_); rintro e w2 ⟨rfl, hW2, hP2⟩; have HMA := Lib.hid (mids_a HA.out hW2 hP2 (did := [.int .u8 1, .int .i64 (k : Int), .int .u64 x, .int .u64 x, .bool true])); clear hW2 hP2)
      | (go_at_call 45; (with_reducible refine (do_load ((H.out.alloc _).alloc _).drew HX.out).mono ?_); rintro e w2 ⟨rfl, hW2, hP2⟩; have HMB := Lib.hid (mids_b HB.out (Row.new2 w _ _ _ rfl).drew (by omega) hW2 hP2 hbp HBW.out HBK.out (k := 1) (c := (k : Int)) (saw := x) (put := x) (ok := true)); have hr3 : Row w2 (w.heap.size + 1) 48 noDid := Row.part (Row.new2 w _ _ _ rfl).drew hP2 (by simp; omega); unfold noDid at hr3; obtain ⟨b0, b1, b2, b3, b4⟩ := hr3.five; have hf3 := hr3.free; have hlt3 := hr3.lt; clear hr3 hW2 hP2))
    all_goals
      go_wp2_with fail
      go_meet
      first | exact ⟨_, rfl, HMA.out⟩ | exact ⟨_, rfl, HMB.out⟩ | exact ⟨_, rfl, HMA.out.drew⟩ | exact ⟨_, rfl, HMB.out.drew⟩
  case rest =>
    clear c0 c8 hf HA HB
    obtain ⟨g, rfl, hM⟩ := hcut
    have HM := Lib.hid hM
    have HOC := HOCH.out wc hM.part
    obtain ⟨p0, p1, p2, p3, p4, p5, p6, p7, p8, p9, p10, p11, p12⟩ := pendP_cells hM.pend
    have pf := hM.pend.free
    have plt := hM.pend.lt
    obtain ⟨b0, b1, b2, b3, b4⟩ := hM.did.five
    have blt := hM.did.lt
    have hg := hM.lo
    have H3 : Hid (k + 1 ≤ maxLen) := Lib.hid (by unfold maxLen; omega)
    have H4 : Hid ((k + 1) * 8 ≤ 140737488355328) := Lib.hid (by omega)
    have H5 : Hid (lo ≤ wc.heap.size) := Lib.hid (by have := hM.part.size; omega)
    have n1 : ¬ bp = g := by omega
    have n2 : ¬ g = bp := by omega
    clear hM p1 p2 p3 p4 p5 p6 p7 p9 p10 p11 p12 b0 b1 b3 b4
    go_upto_region 2 with fail
    go_cut [] (fun wx => ∃ gg gcap, AppP w lo bk bw bp ws t nx (.slice aa la.length ca) (.slice aw k cw) c la (lw ++ [x]) k [.int .u8 1, .int .i64 (k : Int), .int .u64 x, .int .u64 x, .bool true] g gg gcap wx)
    case first =>
     go_region_law
      ((refine step_append_lies _ (by rfl) _ _ _ (by rfl) lo 39 i0 _ 1 8 Try.underlying40 hi hz0 hz1 hz2 rfl (by omega) _ k (u64s lw) (by rfl) ((HOC.out.alloc _).drew) ⟨wc.heap.size, 0, none⟩ 1 1 [.int .u64 x] (by rfl) (by rfl) (World.news_of_block (cs := #[.int .u64 x]) (t := 39) (fr := (0, 0)) (heap_alloc_new wc _)) (by simp [Value.oneCell']) (by omega) H3.out H4.out (by have := H5.out; simp; omega) (wc.heap.size + 1) (by simp) ?_; intro gg gcap w5 hown5 hgrow5 hat5 hlt5; have HZ := Lib.hid (app_made (did := []) HM.out HO.out HAH.out HAP.out HBW.out H.out HP.out hown5 hgrow5 hat5); obtain ⟨y8, yf, y2⟩ := app_cells HM.out HOC.out hgrow5; clear hown5 hgrow5 hat5))
     all_goals
       go_wp2_with fail
       go_meet
       exact ⟨gg, gcap, HZ.out⟩
    case rest =>
     obtain ⟨gg, gcap, hZ⟩ := hcut
     clear p0 p8 b2 pf plt
     have HZ := Lib.hid hZ
     obtain ⟨z0, z1, z2, z3, z4, z5, z6, z7, z8, z9, z10, z11, z12⟩ := pendP_cells hZ.pend
     have zlt := hZ.pend.lt
     obtain ⟨b0, b1, b2, b3, b4⟩ := hZ.did.five
     have blt2 := hZ.did.lt
     have hres := hZ.res
     unfold noDid at hres
     obtain ⟨d0, d1, d2, d3, d4⟩ := hres.five
     have df := hres.free
     have dlt := hres.lt
     have e3 : ¬ g = w.heap.size := by omega
     have e4 : ¬ w.heap.size = g := by omega
     clear hZ hres
     go_wp2
     go_quiet ((go_at_call 48; exact Calls.quiet_of_same ((len_any (HZ.out.words.drewN _)).mono fun _ _ ⟨a, b⟩ => ⟨a, b.symm⟩)))
     go_wp2_with (go_at_call 49; refine (HCOL.out g gg gcap _ (HZ.out.drewN _)).mono ?_; rintro e w4 ⟨rfl, hR4, hP4⟩; have HR4 := Lib.hid hR4; have HP4 := Lib.hid hP4; have hd4 := (HZ.out.drewN nq).did.part hP4 (did_off HZ.out); obtain ⟨f0, f1, f2, f3, f4⟩ := hd4.five; have flt := hd4.lt; have hr4 := (HZ.out.drewN nq).res.part hP4 (res_off HZ.out); unfold noDid at hr4; obtain ⟨r0, r1, r2, r3, r4⟩ := hr4.five; have rf := hr4.free; have rlt := hr4.lt; clear hR4 hP4 hd4 hr4)
     refine bodyPost_ret (v := .agg #[.int .u8 1, .int .i64 (k : Int), .int .u64 x, .int .u64 x, .bool true]) (by simp [results, Try.results32, go_sem, r0, r1, r2, r3, r4]) rfl ⟨g, gg, gcap, _, w4, rfl, HZ.out.drewN nq, HR4.out, HP4.out, ?_⟩
     repeat (first | (with_reducible exact Part.refl _ _) | refine Part.set ?_ (by simp) _)

end Go.Proofs.Ytdadgppbpomdoaa
