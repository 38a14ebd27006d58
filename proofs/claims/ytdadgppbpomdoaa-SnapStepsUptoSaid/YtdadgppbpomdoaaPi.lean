/- THE WALKS of package snap: what lies behind an action; load. -/
import Derived.Test.YtdadgppbpomdoaaPh
namespace Go.Proofs.Ytdadgppbpomdoaa
open Go Go.RowKit

theorem quiet_behind {P : Program} {f : FuncId} {args : Array Value} {w : World} {a n : Nat} {v : Value} (h : Calls P f args (w.drewN (a + n)) fun e w' => e = .returned v ∧ w.drewN (a + n) = w') :
    Calls P f args (w.drewN (a + n)) fun e w'' => e = .returned v ∧ ∃ m, w'' = w.drewN (a + m) := h.mono fun _ _ h' => ⟨h'.1, n, h'.2.symm⟩
def noDid : List Value := [.int .u8 0, .int .i64 0, .int .u64 0, .int .u64 0, .bool false]
/-- what a step's function leaves -/
def SteppedP (w : World) (bk bw bp : Nat) (ws : List Int) (l : List Value) (v : Value) (e : Ending) (w' : World) : Prop := e = .returned v ∧ Words w' bk bw ws ∧ Row w' bp 82 l ∧ Part [bw, bp] w w'
/-- ahead of the action -/
structure PreP (w : World) (bk bw bp : Nat) (ws : List Int) (l : List Value) (wp : World) : Prop where
  words : Words wp bk bw ws
  pend : Row wp bp 82 l
  res : Row wp w.heap.size 48 noDid
  part : Part [bw] w wp
/-- behind the action: what it did lies in a block g of its own -/
structure MidS (w : World) (bk bw bp : Nat) (ws : List Int) (l did : List Value) (g : Nat) (wx : World) : Prop where
  lo : w.heap.size < g
  words : Words wx bk bw ws
  pend : Row wx bp 82 l
  did : Row wx g 48 did
  res : Row wx w.heap.size 48 noDid
  part : Part [bw] w wx
def MidG (w : World) (bk bw bp : Nat) (ws : List Int) (l did : List Value) (v : Value) (wx : World) : Prop := ∃ g, v = .pointer (some ⟨g, 0, none⟩) ∧ MidS w bk bw bp ws l did g wx

section
variable {w w1 w2 : World} {bk bw bp g : Nat} {ws ws' : List Int} {l did : List Value} {k c saw put : Int} {ok : Bool}
theorem PreP.first (h : Words w bk bw ws) (hp : Row w bp 82 l) : PreP w bk bw bp ws l (w.alloc (.cells noDid.toArray 48)).drew :=
  ⟨(h.alloc _).drew, (hp.alloc _).drew, (Row.new w _ _).drew, ((Part.refl [bw] w).alloc _).drew⟩
theorem PreP.second (h : Words w bk bw ws) (hp : Row w bp 82 l) : PreP w bk bw bp ws l ((w.alloc (.cells noDid.toArray 48)).alloc (.cells noDid.toArray 48)).drew :=
  ⟨((h.alloc _).alloc _).drew, ((hp.alloc _).alloc _).drew, ((Row.new w _ _).alloc _).drew, (((Part.refl [bw] w).alloc _).alloc _).drew⟩
theorem PreP.alloc (h : PreP w bk bw bp ws l w1) (o : Obj) : PreP w bk bw bp ws l (w1.alloc o) := ⟨h.words.alloc o, h.pend.alloc o, h.res.alloc o, h.part.alloc o⟩
theorem PreP.drew (h : PreP w bk bw bp ws l w1) : PreP w bk bw bp ws l w1.drew := ⟨h.words.drew, h.pend, h.res, h.part.drew⟩
theorem PreP.on (h : PreP w bk bw bp ws l w1) (hb : Below w1.heap.size w1 w2) : PreP w bk bw bp ws l w2 := ⟨h.words.on hb, h.pend.below hb h.pend.lt, h.res.below hb h.res.lt, h.part.on hb⟩
theorem PreP.off (h : PreP w bk bw bp ws l w1) : bp ∉ [bw] ∧ w.heap.size ∉ [bw] := ⟨by simpa using h.pend.ne h.words.row (by decide), by simpa using h.res.ne h.words.row (by decide)⟩
theorem mids_a (h : PreP w bk bw bp ws l w1) (hW : Words w2 bk bw ws') (hP : Part [bw] w1 w2) : MidS w bk bw bp ws' l did w2.heap.size (w2.alloc (.cells did.toArray 48)) := by
  obtain ⟨n1, n2⟩ := h.off
  have hr := h.res.part hP n2
  exact ⟨hr.lt, hW.alloc _, (h.pend.part hP n1).alloc _, Row.new _ _ _, hr.alloc _, (h.part.then_ hP).alloc _⟩
theorem mids_b (h : PreP w bk bw bp ws l w1) (hg : Row w1 g 48 noDid) (hlo : w.heap.size < g) (hW : Words w2 bk bw ws') (hP : Part [bw] w1 w2) (hbp : bp < w.heap.size) (hbw : bw < w.heap.size) (hbk : bk < w.heap.size) :
    MidS w bk bw bp ws' l [.int .u8 k, .int .i64 c, .int .u64 saw, .int .u64 put, .bool ok] g
      (((((w2.setCell ⟨g, 0, none⟩ (.int .u8 k)).setCell ⟨g, 1, none⟩ (.int .i64 c)).setCell ⟨g, 2, none⟩ (.int .u64 saw)).setCell ⟨g, 3, none⟩ (.int .u64 put)).setCell ⟨g, 4, none⟩ (.bool ok)) := by
  obtain ⟨n1, n2⟩ := h.off
  have hr := h.res.part hP n2
  have hr1 : Row w2 g 48 noDid := hg.part hP (by simp; omega)
  have hp2 := h.pend.part hP n1
  have hE : Part [g] w2 (((((w2.setCell ⟨g, 0, none⟩ (.int .u8 k)).setCell ⟨g, 1, none⟩ (.int .i64 c)).setCell ⟨g, 2, none⟩ (.int .u64 saw)).setCell ⟨g, 3, none⟩ (.int .u64 put)).setCell ⟨g, 4, none⟩ (.bool ok)) := by
    repeat (refine Part.set ?_ (by simp) _)
    exact Part.refl _ _
  refine ⟨hlo, hW.part hE (by simp; omega) (by simp; omega), hp2.part hE (by simp; omega), ?_, hr.part hE (by simp; omega), ?_⟩
  · exact Row.of_eq (((((hr1.set 0 _).set 1 _).set 2 _).set 3 _).set 4 _) rfl
  · refine Part.trans (S' := [g]) (h.part.then_ hP) hE (fun q hq hm => ?_)
    simp at hm
    omega
theorem MidS.drew (h : MidS w bk bw bp ws l did g w1) : MidS w bk bw bp ws l did g w1.drew := ⟨h.lo, h.words.drew, h.pend, h.did, h.res, h.part.drew⟩
theorem mids_end {wx wf : World} {l' l'' : List Value} (hM : MidS w bk bw bp ws l did g wx) (h : Words w bk bw ws') (hE : Part [bp, w.heap.size] wx wf) (hr : Row wf bp 82 l') (he : l' = l'') :
    Words wf bk bw ws ∧ Row wf bp 82 l'' ∧ Part [bw, bp] w wf := by
  have h1 := h.head.lt
  have h2 := h.row.lt
  have h3 : bk ≠ bp := hM.words.head.ne hM.pend (by decide)
  have h4 : bw ≠ bp := hM.words.row.ne hM.pend (by decide)
  refine ⟨hM.words.part hE (by simp [h3]; omega) (by simp [h4]; omega), he ▸ hr, ?_⟩
  refine Part.trans (S' := [bp, w.heap.size]) (hM.part.mono (S' := [bw, bp]) (fun q _ hm => by simp at hm; simp [hm])) hE (fun q hq hm => ?_)
  simp at hm ⊢
  omega
theorem mids_end2 {wx w4 wf : World} {l' : List Value} (hM : MidS w bk bw bp ws l did g wx) (h : Words w bk bw ws') (hbp : bp < w.heap.size) (hR : Row w4 bp 82 l') (hP : Part [bp] wx w4) (hE : Part [w.heap.size] w4 wf) :
    Words wf bk bw ws ∧ Row wf bp 82 l' ∧ Part [bw, bp] w wf := by
  have hb := hM.res.lt
  have hE2 : Part [bp, w.heap.size] wx wf := by
    refine Part.trans (S' := [w.heap.size]) (Part.trans (S' := [bp]) (Part.refl [bp, w.heap.size] wx) hP (fun q _ hm => by simp at hm ⊢; omega)) hE (fun q _ hm => by simp at hm ⊢; omega)
  exact mids_end hM h hE2 (hR.part hE (by simp; omega)) rfl
end

set_option maxHeartbeats 1600000
set_option maxRecDepth 100000
theorem fload_any {w : World} {bk bw bp : Nat} {ws : List Int} (h : Words w bk bw ws) {i : Nat} {x v saw : Int} {nx : Value} (hx : ws[i]? = some x) (hp : Row w bp 82 (pendP bk 1 (i : Int) v 0 nx saw nilS nilS 0 nilS false 0)) :
    Calls Try.prog 30 #[.pointer (some ⟨bp, 0, none⟩)] w (SteppedP w bk bw bp ws (pendP bk 1 (i : Int) v 0 (fnV 46) x nilS nilS 0 nilS false 0) (.agg #[.int .u8 1, .int .i64 (i : Int), .int .u64 x, .int .u64 x, .bool true])) := by
  obtain ⟨c0, c1, c2, c3, c4, c5, c6, c7, c8, c9, c10, c11, c12⟩ := pendP_cells hp
  have hf := hp.free
  have hbp := hp.lt
  have hbw := h.row.lt
  have HBW := Lib.hid hbw
  have HBK := Lib.hid h.head.lt
  have HX := Lib.hid hx
  have H := Lib.hid h
  have HA := Lib.hid (PreP.first h hp)
  have HB := Lib.hid (PreP.second h hp)
  clear h hp hx c4 c5 c7 c8 c9 c10 c11 c12
  go_enter Try.func30, Try.ntmps30
  go_upto_region 1 with fail
  go_cut [3] (fun s3 wx => MidG w bk bw bp ws (pendP bk 1 (i : Int) v 0 nx saw nilS nilS 0 nilS false 0) [.int .u8 1, .int .i64 (i : Int), .int .u64 x, .int .u64 x, .bool true] s3 wx)
  case first =>
    go_region_with (first
      | (go_at_call 45; (with_reducible refine (do_load (H.out.alloc _).drew HX.out).mono ?_); rintro e w2 ⟨rfl, hW2, hP2⟩; have HMA := Lib.hid (mids_a HA.out hW2 hP2 (did := [.int .u8 1, .int .i64 (i : Int), .int .u64 x, .int .u64 x, .bool true])); clear hW2 hP2)
      | (go_at_call 45; (with_reducible refine (do_load ((H.out.alloc _).alloc _).drew HX.out).mono ?_); rintro e w2 ⟨rfl, hW2, hP2⟩; have HMB := Lib.hid (mids_b HB.out (Row.new2 w _ _ _ rfl).drew (by omega) hW2 hP2 hbp HBW.out HBK.out (k := 1) (c := (i : Int)) (saw := x) (put := x) (ok := true)); have hr3 : Row w2 (w.heap.size + 1) 48 noDid := Row.part (Row.new2 w _ _ _ rfl).drew hP2 (by simp; omega); unfold noDid at hr3; obtain ⟨b0, b1, b2, b3, b4⟩ := hr3.five; have hf3 := hr3.free; have hlt3 := hr3.lt; clear hr3 hW2 hP2))
    all_goals
      go_wp2_with fail
      go_meet
      first | exact ⟨_, rfl, HMA.out⟩ | exact ⟨_, rfl, HMB.out⟩ | exact ⟨_, rfl, HMA.out.drew⟩ | exact ⟨_, rfl, HMB.out.drew⟩
  case rest =>
    clear c0 c1 c2 c3 c6 hf HA HB
    obtain ⟨g, rfl, hM⟩ := hcut
    have HM := Lib.hid hM
    obtain ⟨p0, p1, p2, p3, p4, p5, p6, p7, p8, p9, p10, p11, p12⟩ := pendP_cells hM.pend
    have pf := hM.pend.free
    have plt := hM.pend.lt
    obtain ⟨b0, b1, b2, b3, b4⟩ := hM.did.five
    have bf := hM.did.free
    have blt := hM.did.lt
    have hres := hM.res
    unfold noDid at hres
    obtain ⟨d0, d1, d2, d3, d4⟩ := hres.five
    have df := hres.free
    have dlt := hres.lt
    have hg := hM.lo
    have e1 : ¬ bp = g := by omega
    have e2 : ¬ g = bp := by omega
    have e3 : ¬ g = w.heap.size := by omega
    have e4 : ¬ w.heap.size = g := by omega
    have e5 : ¬ bp = w.heap.size := by omega
    have e6 : ¬ w.heap.size = bp := by omega
    clear hM hres
    go_wp2
    refine bodyPost_ret (v := .agg #[.int .u8 1, .int .i64 (i : Int), .int .u64 x, .int .u64 x, .bool true]) (by simp [results, Try.results30, go_sem, d0, d1, d2, d3, d4]) rfl ⟨rfl, ?_⟩
    refine mids_end HM.out H.out (l' := ((pendP bk 1 (i : Int) v 0 nx saw nilS nilS 0 nilS false 0).set 6 (.int .u64 x)).set 5 (.func (.func 46) #[] #[])) ?_ ?_ (by simp [pendP, fnV])
    · repeat (first | (with_reducible exact Part.refl _ _) | (with_reducible refine Part.drewN ?_ _) | (with_reducible refine Part.alloc ?_ _) | refine Part.set ?_ (by simp) _)
    · repeat (first | (with_reducible exact HM.out.pend) | (with_reducible refine Row.drewN ?_ _) | (with_reducible refine Row.alloc ?_ _) | (with_reducible refine Row.far ?_ (by first | exact e5 | exact e6) _) | (with_reducible refine Row.set ?_ _ _))
/-- what a step's function leaves by which the operation has ended: registers of its own -/
def EndedP (w : World) (bk bw bp : Nat) (ws : List Int) (l : Value → List Value) (xs : List Int) (v : Value) (e : Ending) (w' : World) : Prop :=
  ∃ b, e = .returned v ∧ Words w' bk bw ws ∧ Row w' bp 82 (l (.slice (some ⟨b, 0, none⟩) xs.length xs.length)) ∧ Row w' b 60 (regCells xs) ∧ w.heap.size ≤ b ∧ Part [bw, bp] w w'
theorem ended_end {w w3 w4 wf wx : World} {bk bw bp g b : Nat} {ws ws' xs : List Int} {l l' did : List Value} (hM : MidS w bk bw bp ws l did g wx) (h : Words w bk bw ws') (hbp : bp < w.heap.size) (hb3 : Below wx.heap.size wx w3) (hlo : wx.heap.size ≤ b) (hr3 : Row w3 b 60 (regCells xs))
    (hR : Row w4 bp 82 l') (hP : Part [bp] w3 w4) (hE : Part [w.heap.size] w4 wf) :
    Words wf bk bw ws ∧ Row wf bp 82 l' ∧ Row wf b 60 (regCells xs) ∧ w.heap.size ≤ b ∧ Part [bw, bp] w wf := by
  have hlt := hM.res.lt
  have hP4 : Part [bp] wx w4 := (Part.of_below hb3 (Nat.le_refl _) [bp]).then_ hP
  obtain ⟨a1, a2, a3⟩ := mids_end2 hM h hbp hR hP4 hE
  have hl3 := hM.pend.lt
  exact ⟨a1, a2, (hr3.part hP (by simp; omega)).part hE (by simp; omega), by omega, a3⟩
theorem one_lies (w : World) (x : Int) : Lies (w.alloc (.cells #[.int .u64 x] 39)) w.heap.size [x] := (Row.new w 39 (u64s [x])).lies
theorem regsof_one {w : World} {g : Nat} {x : Int} (h : Lies w g [x]) (hg : g < w.heap.size) (hx : U64 x) : Calls Try.prog 37 #[.slice (some ⟨g, 0, none⟩) 1 1] w (RegsTo w [x]) := regsof_any h hg (by simpa using hx) (by simp)
theorem fget_any {w : World} {bk bw bp : Nat} {ws : List Int} (h : Words w bk bw ws) {i : Nat} {x saw : Int} {nx : Value} (hx : ws[i]? = some x) (hp : Row w bp 82 (pendP bk 2 (i : Int) 0 0 nx saw nilS nilS 0 nilS false 0)) :
    Calls Try.prog 31 #[.pointer (some ⟨bp, 0, none⟩)] w (EndedP w bk bw bp ws (fun vr => (pendP bk 2 (i : Int) 0 0 .nilFunc saw nilS nilS 0 vr false 0)) [x] (.agg #[.int .u8 1, .int .i64 (i : Int), .int .u64 x, .int .u64 x, .bool true])) := by
  obtain ⟨c0, c1, c2, c3, c4, c5, c6, c7, c8, c9, c10, c11, c12⟩ := pendP_cells hp
  have hf := hp.free
  have hbp := hp.lt
  have hbw := h.row.lt
  have HBW := Lib.hid hbw
  have HBK := Lib.hid h.head.lt
  have HX := Lib.hid hx
  have H := Lib.hid h
  have HA := Lib.hid (PreP.first h hp)
  have HB := Lib.hid (PreP.second h hp)
  have HU := Lib.hid (h.u64 hx)
  clear h hp hx c4 c5 c7 c8 c9 c10 c11 c12
  go_enter Try.func31, Try.ntmps31
  go_upto_region 1 with fail
  go_cut [3] (fun s3 wx => MidG w bk bw bp ws (pendP bk 2 (i : Int) 0 0 nx saw nilS nilS 0 nilS false 0) [.int .u8 1, .int .i64 (i : Int), .int .u64 x, .int .u64 x, .bool true] s3 wx)
  case first =>
    go_region_with (first
      | (go_at_call 45; (with_reducible refine (do_load (H.out.alloc _).drew HX.out).mono ?_); rintro e w2 ⟨rfl, hW2, hP2⟩; have HMA := Lib.hid (mids_a HA.out hW2 hP2 (did := [.int .u8 1, .int .i64 (i : Int), .int .u64 x, .int .u64 x, .bool true])); clear hW2 hP2)
      | (go_at_call 45; (with_reducible refine (do_load ((H.out.alloc _).alloc _).drew HX.out).mono ?_); rintro e w2 ⟨rfl, hW2, hP2⟩; have HMB := Lib.hid (mids_b HB.out (Row.new2 w _ _ _ rfl).drew (by omega) hW2 hP2 hbp HBW.out HBK.out (k := 1) (c := (i : Int)) (saw := x) (put := x) (ok := true)); have hr3 : Row w2 (w.heap.size + 1) 48 noDid := Row.part (Row.new2 w _ _ _ rfl).drew hP2 (by simp; omega); unfold noDid at hr3; obtain ⟨b0, b1, b2, b3, b4⟩ := hr3.five; have hf3 := hr3.free; have hlt3 := hr3.lt; clear hr3 hW2 hP2))
    all_goals
      go_wp2_with fail
      go_meet
      first | exact ⟨_, rfl, HMA.out⟩ | exact ⟨_, rfl, HMB.out⟩ | exact ⟨_, rfl, HMA.out.drew⟩ | exact ⟨_, rfl, HMB.out.drew⟩
  case rest =>
    clear c0 c1 c2 c3 c6 hf HA HB
    obtain ⟨g, rfl, hM⟩ := hcut
    have HM := Lib.hid hM
    obtain ⟨p0, p1, p2, p3, p4, p5, p6, p7, p8, p9, p10, p11, p12⟩ := pendP_cells hM.pend
    have pf := hM.pend.free
    have plt := hM.pend.lt
    obtain ⟨b0, b1, b2, b3, b4⟩ := hM.did.five
    have bf := hM.did.free
    have blt := hM.did.lt
    have hres := hM.res
    unfold noDid at hres
    obtain ⟨d0, d1, d2, d3, d4⟩ := hres.five
    have df := hres.free
    have dlt := hres.lt
    have hg := hM.lo
    have e1 : ¬ bp = g := by omega
    have e2 : ¬ g = bp := by omega
    have e3 : ¬ g = w.heap.size := by omega
    have e4 : ¬ w.heap.size = g := by omega
    have e5 : ¬ bp = w.heap.size := by omega
    have e6 : ¬ w.heap.size = bp := by omega
    clear hM hres
    go_wp2_with (first
      | (go_at_call 37; refine (regsof_one (one_lies _ _) (by simp) HU.out).mono ?_; rintro e w3 ⟨b, rfl, hb, hr, hb3⟩; have HB3 : Hid (Below wc.heap.size wc w3) := Lib.hid (((Below.refl _ _).alloc (Nat.le_refl _) _).trans (hb3.mono (by simp))); have HL3 : Hid (wc.heap.size ≤ b) := Lib.hid (by simp at hb; omega); have HR3 := Lib.hid hr; have HQ3 := Lib.hid (HM.out.pend.below HB3.out HM.out.pend.lt); have HD3 := Lib.hid (HM.out.did.below HB3.out HM.out.did.lt); have HN3 := Lib.hid (HM.out.res.below HB3.out HM.out.res.lt); clear hb hr hb3)
      | (go_at_call 47; refine (pend_any HQ3.out).mono ?_; rintro e w4 ⟨rfl, hR4, hP4⟩; have HR4 := Lib.hid hR4; have HP4 := Lib.hid hP4; have hd4 := HD3.out.part hP4 (by simp; omega); obtain ⟨g0, g1, g2, g3, g4⟩ := hd4.five; have glt := hd4.lt; have hb4 := HN3.out.part hP4 (by simp; omega); unfold noDid at hb4; obtain ⟨h0, h1, h2, h3, h4⟩ := hb4.five; have hhf := hb4.free; have hhlt := hb4.lt; clear hR4 hP4 hd4 hb4))
    refine bodyPost_ret (v := .agg #[.int .u8 1, .int .i64 (i : Int), .int .u64 x, .int .u64 x, .bool true]) (by simp [results, Try.results31, go_sem, h0, h1, h2, h3, h4]) rfl ⟨b, rfl, ?_⟩
    refine ended_end HM.out H.out hbp HB3.out HL3.out HR3.out HR4.out HP4.out ?_
    repeat (first | (with_reducible exact Part.refl _ _) | refine Part.set ?_ (by simp) _)
end Go.Proofs.Ytdadgppbpomdoaa
