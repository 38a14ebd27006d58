/- THE WALKS of package snap: collect. -/
import Derived.Test.YtdadgppbpomdoaaPl
import Derived.Deep.AppendLies
import Derived.Deep.RegionLaw
namespace Go.Proofs.Ytdadgppbpomdoaa
open Go Go.RowKit

/-- behind the append of a collect -/
structure AppP (w : World) (lo bk bw bp : Nat) (ws : List Int) (t : Int) (nx va vw : Value) (c : Nat) (la lw : List Int) (k : Nat) (did : List Value) (gd g cap : Nat) (wz : World) : Prop where
  words : Words wz bk bw ws
  pend : Row wz bp 82 (scanL bk t nx va (.slice (some ⟨g, 0, none⟩) (k + 1) cap) (c : Int) nilS false 0)
  own : wz.ownsRow lo 39 1 (.slice (some ⟨g, 0, none⟩) (k + 1) cap) (k + 1) (u64s lw)
  ahead : wz.ownsRow lo 39 1 va la.length (u64s la)
  res : Row wz w.heap.size 48 noDid
  did : Row wz gd 48 did
  gdlo : w.heap.size < gd
  part : Part ([bw, bp] ++ vw.ownBlock.toList) w wz
  fresh : vw.ownBlock = some g ∨ w.heap.size ≤ g
  apart : va.ownBlock = none ∨ va.ownBlock ≠ some g
theorem info_u64s (xs : List Int) (x : Int) : u64s xs ++ [.int .u64 x] = u64s (xs ++ [x]) := by simp [u64s]
theorem own_type_ne {w : World} {base n size g b : Nat} {e t : TypeId} {v : Value} {xs l : List Value} (h : w.ownsRow base e size v n xs) (hb : Row w b t l) (hne : e ≠ t) (hg : v.ownBlock = some g) : g ≠ b := own_off h hb hne g hg
set_option maxHeartbeats 1600000
set_option maxRecDepth 100000
theorem app_made {w wc w5 : World} {lo bk bw bp k ca cw gd gg gcap : Nat} {ws la lw did : List Int} {dl : List Value} {t : Int} {nx : Value} {aa aw : Option Addr} {c : Nat} {x : Int}
    (hM : MidS w bk bw bp ws (scanL bk t nx (.slice aa la.length ca) (.slice aw k cw) (c : Int) nilS false 0) dl gd wc)
    (ho : w.ownsRow lo 39 1 (.slice aw k cw) k (u64s lw)) (ha : w.ownsRow lo 39 1 (.slice aa la.length ca) la.length (u64s la)) (hap : (Value.slice aa la.length ca).ownBlock = none ∨ (Value.slice aa la.length ca).ownBlock ≠ (Value.slice aw k cw).ownBlock) (hbwl : bw < w.heap.size)
    (hW : Words w bk bw ws) (hpw : Row w bp 82 (scanL bk t nx (.slice aa la.length ca) (.slice aw k cw) (c : Int) nilS false 0))
    (hown : w5.ownsRow lo 39 1 (.slice (some ⟨gg, 0, none⟩) (k + 1) gcap) (k + 1) (u64s lw ++ [.int .u64 x])) (hg : ((wc.alloc (.cells #[.int .u64 x] 39)).drew).grownBy w5 (Value.slice aw k cw).ownBlock) (hat : (Value.slice aw k cw).ownBlock = some gg ∨ gg = wc.heap.size + 1) :
    AppP w lo bk bw bp ws t nx (.slice aa la.length ca) (.slice aw k cw) c la (lw ++ [x]) k dl gd gg gcap (w5.setCell ⟨bp, 8, none⟩ (.slice (some ⟨gg, 0, none⟩) (k + 1) gcap)) := by
  have hoc : wc.ownsRow lo 39 1 (.slice aw k cw) k (u64s lw) := own_part ho hM.part (fun q hq => by simpa using own_off ho hW.row (by decide) q hq)
  have hac : wc.ownsRow lo 39 1 (.slice aa la.length ca) la.length (u64s la) := own_part ha hM.part (fun q hq => by simpa using own_off ha hW.row (by decide) q hq)
  have hod := (hoc.alloc (.cells #[.int .u64 x] 39)).drew
  have had := (hac.alloc (.cells #[.int .u64 x] 39)).drew
  have sh : ∀ {b : Nat} {tt : TypeId} {l : List Value}, Row wc b tt l → 39 ≠ tt → Row w5 b tt l := fun hrow hne => ((hrow.alloc _).drew).grown hg (own_not_in hod ((hrow.alloc _).drew) hne)
  have hbp5 := sh hM.pend (by decide)
  have hsz := hM.part.size
  have hlo := hM.lo
  have hblt := hpw.lt
  have hne : ∀ {b : Nat} {tt : TypeId} {l : List Value}, Row w5 b tt l → tt ≠ 82 → bp ≠ b := fun hrow hn => hbp5.ne hrow (fun e => hn e.symm)
  have hE : Part [bp] w5 (w5.setCell ⟨bp, 8, none⟩ (.slice (some ⟨gg, 0, none⟩) (k + 1) gcap)) := (Part.refl [bp] w5).set (by simp) _
  have hwords5 : Words w5 bk bw ws := ⟨sh hM.words.head (by decide), sh hM.words.row (by decide), hM.words.few, hM.words.ok⟩
  have ha5 : w5.ownsRow lo 39 1 (.slice aa la.length ca) la.length (u64s la) := had.kept hg hap
  refine ⟨?_, ?_, ?_, ?_, ?_, ?_, hM.lo, ?_, ?_, ?_⟩
  · exact hwords5.part hE (by simpa using (hne hwords5.head (by decide)).symm) (by simpa using (hne hwords5.row (by decide)).symm)
  · exact Row.of_eq (hbp5.set 8 _) (by simp [scanL, pendP])
  · rw [← info_u64s]
    exact own_part hown hE (fun q hq => by simpa using own_off hown hbp5 (by decide) q hq)
  · exact own_part ha5 hE (fun q hq => by simpa using own_off ha5 hbp5 (by decide) q hq)
  · exact (sh hM.res (by decide)).part hE (by simpa using (hne (sh hM.res (by decide)) (by decide)).symm)
  · exact (sh hM.did (by decide)).part hE (by simpa using (hne (sh hM.did (by decide)) (by decide)).symm)
  · refine Part.set ?_ (by simp) _
    refine Part.trans (S' := (Value.slice aw k cw).ownBlock.toList) ((((hM.part.mono (fun q _ hm => by simp at hm; simp [hm])).alloc _).drew)) ⟨hg.os, hg.tape, hg.output, hg.size, fun q hq hn => hg.block q hq (fun e => hn (by rw [← e]; simp))⟩ (fun q _ hm => by simp [hm])
  · rcases hat with e | e
    · exact .inl e
    · right; omega
  · rcases hap with e | e
    · exact .inl e
    · rcases hat with e' | e'
      · right; rwa [e'] at e
      · right
        intro h'
        have := own_block hac gg h'
        omega
theorem app_cells {w wc w5 : World} {lo bk bw bp k ca cw gd : Nat} {ws la lw : List Int} {kd cd sd pd : Value} {od : Value} {t : Int} {nx : Value} {aa aw : Option Addr} {c : Nat} {x : Int}
    (hM : MidS w bk bw bp ws (scanL bk t nx (.slice aa la.length ca) (.slice aw k cw) (c : Int) nilS false 0) [kd, cd, sd, pd, od] gd wc)
    (hoc : wc.ownsRow lo 39 1 (.slice aw k cw) k (u64s lw)) (hg : ((wc.alloc (.cells #[.int .u64 x] 39)).drew).grownBy w5 (Value.slice aw k cw).ownBlock) :
    w5.cell? ⟨bp, 8, none⟩ = some (.slice aw k cw) ∧ (∀ i, w5.frozen? ⟨bp, i, none⟩ = false) ∧ w5.cell? ⟨gd, 2, none⟩ = some sd := by
  have hod := (hoc.alloc (.cells #[.int .u64 x] 39)).drew
  have h1 : Row w5 bp 82 _ := ((hM.pend.alloc _).drew).grown hg (own_not_in hod ((hM.pend.alloc _).drew) (by decide))
  have h2 : Row w5 gd 48 _ := ((hM.did.alloc _).drew).grown hg (own_not_in hod ((hM.did.alloc _).drew) (by decide))
  exact ⟨h1.cell 8, h1.free, h2.cell 2⟩
/-- what a collect's step leaves: behind its append wz, behind what comes then w4 -/
def CollectTo (w : World) (lo bk bw bp : Nat) (ws : List Int) (t : Int) (nx va vw : Value) (c : Nat) (la lw : List Int) (k : Nat) (did : List Value) (R : Nat → Nat → World → World → Prop) (e : Ending) (w' : World) : Prop :=
  ∃ gd gg gcap wz w4, e = .returned (.agg did.toArray) ∧ AppP w lo bk bw bp ws t nx va vw c la lw k did gd gg gcap wz ∧ R gg gcap wz w4 ∧ Part [bp] wz w4 ∧ Part [w.heap.size] w4 w'
theorem AppP.drewN {w wz : World} {lo bk bw bp k gd g cap c : Nat} {ws la lw : List Int} {t : Int} {nx va vw : Value} {did : List Value} (h : AppP w lo bk bw bp ws t nx va vw c la lw k did gd g cap wz) (n : Nat) : AppP w lo bk bw bp ws t nx va vw c la lw k did gd g cap (wz.drewN n) :=
  ⟨h.words.drewN n, h.pend, h.own, h.ahead, h.res, h.did, h.gdlo, h.part.drewN n, h.fresh, h.apart⟩
theorem collect_more {w : World} {lo bk bw bp k ca cw : Nat} {ws la lw : List Int} {t : Int} {nx : Value} {aa aw : Option Addr} {c : Nat} {x : Int} (h : Words w bk bw ws) (hn : ws.length ≤ 64) (hx : ws[k]? = some x) (hk : lw.length = k)
    (hp : Row w bp 82 (scanL bk t nx (.slice aa la.length ca) (.slice aw k cw) (c : Int) nilS false 0)) (ho : w.ownsRow lo 39 1 (.slice aw k cw) k (u64s lw)) (ha : w.ownsRow lo 39 1 (.slice aa la.length ca) la.length (u64s la)) (hap : (Value.slice aa la.length ca).ownBlock = none ∨ (Value.slice aa la.length ca).ownBlock ≠ (Value.slice aw k cw).ownBlock) (hlo : lo ≤ w.heap.size) (hm : k + 1 < ws.length) :
    Calls Try.prog 32 #[.pointer (some ⟨bp, 0, none⟩)] w (CollectTo w lo bk bw bp ws t nx (.slice aa la.length ca) (.slice aw k cw) c la (lw ++ [x]) k [.int .u8 1, .int .i64 (k : Int), .int .u64 x, .int .u64 x, .bool true] fun _ _ wz w4 => ∃ m, w4 = wz.drewN m) := by
  have hq : ((k : Int) + 1 == (ws.length : Int)) = false := by rw [beq_eq_false_iff_ne]; omega
  have hq' : (((k + 1 : Nat) : Int) == (ws.length : Int)) = false := by rw [beq_eq_false_iff_ne]; omega
  clear hm
  obtain ⟨c0, c1, c2, c3, c4, c5, c6, c7, c8, c9, c10, c11, c12⟩ := pendP_cells hp
  have hf := hp.free
  have hbp := hp.lt
  have hbw := h.row.lt
  obtain ⟨i0, hi, hz0, hz1, hz2⟩ := info_parts info29
  have HBW := Lib.hid hbw
  have HBK := Lib.hid h.head.lt
  have HX := Lib.hid hx
  have HK := Lib.hid hk
  have H := Lib.hid h
  have HP := Lib.hid hp
  have HO := Lib.hid ho
  have HAH := Lib.hid ha
  have HAP := Lib.hid hap
  have HA := Lib.hid (PreP.first h hp)
  have HB := Lib.hid (PreP.second h hp)
  have hk64 : k < ws.length := lt_of_get hx
  have HOC : ∀ wc : World, Part [bw] w wc → Hid (wc.ownsRow lo 39 1 (.slice aw k cw) k (u64s lw)) := fun wc hP => Lib.hid (own_part ho hP (fun q hq => by simpa using own_off ho h.row (by decide) q hq))
  have HOCH := Lib.hid HOC
  clear h hp hx hk ho ha hap HOC c1 c2 c3 c4 c5 c6 c7 c9 c10 c11 c12
  go_enter Try.func32, Try.ntmps32
  go_upto_region 1 with fail
  go_cut [3] (fun s3 wx => MidG w bk bw bp ws (scanL bk t nx (.slice aa la.length ca) (.slice aw k cw) (c : Int) nilS false 0) [.int .u8 1, .int .i64 (k : Int), .int .u64 x, .int .u64 x, .bool true] s3 wx)
  case first =>
    go_region_with (first
      | (go_at_call 45; (with_reducible refine (do_load (H.out.alloc _).drew HX.out).mono ?_); rintro e w2 ⟨rfl, hW2, hP2⟩; have HMA := Lib.hid (mids_a HA.out hW2 hP2 (did := [.int .u8 1, .int .i64 (k : Int), .int .u64 x, .int .u64 x, .bool true])); clear hW2 hP2)
      | (go_at_call 45; (with_reducible refine (do_load ((H.out.alloc _).alloc _).drew HX.out).mono ?_); rintro e w2 ⟨rfl, hW2, hP2⟩; have HMB := Lib.hid (mids_b HB.out (Row.new2 w _ _ _ rfl).drew (by omega) hW2 hP2 hbp HBW.out HBK.out (k := 1) (c := (k : Int)) (saw := x) (put := x) (ok := true)); have hr3 : Row w2 (w.heap.size + 1) 48 noDid := Row.part (Row.new2 w _ _ _ rfl).drew hP2 (by simp; omega); unfold noDid at hr3; obtain ⟨b0, b1, b2, b3, b4⟩ := hr3.five; have hf3 := hr3.free; have hlt3 := hr3.lt; clear hr3 hW2 hP2))
    all_goals
      go_wp2_with fail
      go_meet
      first | exact ⟨_, rfl, HMA.out⟩ | exact ⟨_, rfl, HMB.out⟩ | exact ⟨_, rfl, HMA.out.drew⟩ | exact ⟨_, rfl, HMB.out.drew⟩
  case rest =>
    clear c0 c8 hf HA HB
    obtain ⟨g, rfl, hM⟩ := hcut
    have HM := Lib.hid hM
    have HOC := HOCH.out wc hM.part
    obtain ⟨p0, p1, p2, p3, p4, p5, p6, p7, p8, p9, p10, p11, p12⟩ := pendP_cells hM.pend
    have pf := hM.pend.free
    have plt := hM.pend.lt
    obtain ⟨b0, b1, b2, b3, b4⟩ := hM.did.five
    have blt := hM.did.lt
    have hg := hM.lo
    have H3 : Hid (k + 1 ≤ maxLen) := Lib.hid (by unfold maxLen; omega)
    have H4 : Hid ((k + 1) * 8 ≤ 140737488355328) := Lib.hid (by omega)
    have H5 : Hid (lo ≤ wc.heap.size) := Lib.hid (by have := hM.part.size; omega)
    have n1 : ¬ bp = g := by omega
    have n2 : ¬ g = bp := by omega
    clear hM p1 p2 p3 p4 p5 p6 p7 p9 p10 p11 p12 b0 b1 b3 b4
    go_upto_region 2 with fail
    go_cut [] (fun wx => ∃ gg gcap, AppP w lo bk bw bp ws t nx (.slice aa la.length ca) (.slice aw k cw) c la (lw ++ [x]) k [.int .u8 1, .int .i64 (k : Int), .int .u64 x, .int .u64 x, .bool true] g gg gcap wx)
    case first =>
     go_region_law
      ((refine step_append_lies _ (by rfl) _ _ _ (by rfl) lo 39 i0 _ 1 8 Try.underlying40 hi hz0 hz1 hz2 rfl (by omega) _ k (u64s lw) (by rfl) ((HOC.out.alloc _).drew) ⟨wc.heap.size, 0, none⟩ 1 1 [.int .u64 x] (by rfl) (by rfl) (World.news_of_block (cs := #[.int .u64 x]) (t := 39) (fr := (0, 0)) (heap_alloc_new wc _)) (by simp [Value.oneCell']) (by omega) H3.out H4.out (by have := H5.out; simp; omega) (wc.heap.size + 1) (by simp) ?_; intro gg gcap w5 hown5 hgrow5 hat5 hlt5; have HZ := Lib.hid (app_made (did := []) HM.out HO.out HAH.out HAP.out HBW.out H.out HP.out hown5 hgrow5 hat5); obtain ⟨y8, yf, y2⟩ := app_cells HM.out HOC.out hgrow5; clear hown5 hgrow5 hat5))
     all_goals
       go_wp2_with fail
       go_meet
       exact ⟨gg, gcap, HZ.out⟩
    case rest =>
     obtain ⟨gg, gcap, hZ⟩ := hcut
     clear p0 p8 b2 pf plt
     have HZ := Lib.hid hZ
     obtain ⟨z0, z1, z2, z3, z4, z5, z6, z7, z8, z9, z10, z11, z12⟩ := pendP_cells hZ.pend
     have zlt := hZ.pend.lt
     obtain ⟨b0, b1, b2, b3, b4⟩ := hZ.did.five
     have blt2 := hZ.did.lt
     have hres := hZ.res
     unfold noDid at hres
     obtain ⟨d0, d1, d2, d3, d4⟩ := hres.five
     have df := hres.free
     have dlt := hres.lt
     have e3 : ¬ g = w.heap.size := by omega
     have e4 : ¬ w.heap.size = g := by omega
     clear hZ hres
     go_wp2
     go_quiet ((go_at_call 48; exact Calls.quiet_of_same ((len_any (HZ.out.words.drewN _)).mono fun _ _ ⟨a, b⟩ => ⟨a, b.symm⟩)))
     go_wp2
     refine bodyPost_ret (v := .agg #[.int .u8 1, .int .i64 (k : Int), .int .u64 x, .int .u64 x, .bool true]) (by simp [results, Try.results32, go_sem, d0, d1, d2, d3, d4]) rfl ⟨g, gg, gcap, wc, wc.drewN nq, rfl, HZ.out, ⟨nq, rfl⟩, (Part.refl [bp] _).drewN nq, ?_⟩
     repeat (first | (with_reducible exact Part.refl _ _) | refine Part.set ?_ (by simp) _)

end Go.Proofs.Ytdadgppbpomdoaa
