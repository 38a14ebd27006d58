/- THE WALKS of package shards: what a step's function does. -/
import Derived.Test.YtcocegneegjcpaaSh
import Derived.Deep.Cut
import Derived.Deep.CutRange
import Derived.Deep.DeepCutAuto
namespace Go.Proofs.Ytcocegneegjcpaa
open Go Go.RowKit

/-- what a step's function leaves -/
def Stepped (w : World) (bk bw bp : Nat) (ws : List Int) (l : List Value) (v : Value) (e : Ending) (w' : World) : Prop := e = .returned v ∧ Words w' bk bw ws ∧ Row w' bp 126 l ∧ Part [bw, bp] w w'
def noDid : List Value := [.int .u8 0, .int .i64 0, .int .u64 0, .int .u64 0, .bool false]
/-- behind the action: what it did lies in a block g of its own -/
structure MidAt (w : World) (bk bw bp : Nat) (ws : List Int) (l did : List Value) (g : Nat) (wx : World) : Prop where
  lo : w.heap.size < g
  words : Words wx bk bw ws
  pend : Row wx bp 126 l
  did : Row wx g 45 did
  res : Row wx w.heap.size 45 noDid
  part : Part [bw] w wx
def Mid (w : World) (bk bw bp : Nat) (ws : List Int) (l did : List Value) (v : Value) (wx : World) : Prop := ∃ g, v = .pointer (some ⟨g, 0, none⟩) ∧ MidAt w bk bw bp ws l did g wx

section
variable {w w2 : World} {bk bw bp : Nat} {ws ws' : List Int} {l : List Value} {k c saw put : Int} {ok : Bool}
theorem mid_a (h : Words w bk bw ws) (hp : Row w bp 126 l) (hW : Words w2 bk bw ws') (hP : Part [bw] (w.alloc (.cells noDid.toArray 45)).drew w2) {did : List Value} :
    MidAt w bk bw bp ws' l did w2.heap.size (w2.alloc (.cells did.toArray 45)) := by
  have hn : bp ∉ [bw] := by simpa using hp.ne h.row (by decide)
  have hb := h.row.lt
  have h0 : w.heap.size ∉ [bw] := by simp; omega
  have hr : Row w2 w.heap.size 45 noDid := Row.part (Row.new w _ _).drew hP h0
  exact ⟨hr.lt, hW.alloc _, (Row.part (hp.alloc _).drew hP hn).alloc _, Row.new _ _ _, hr.alloc _, (Part.trans (S' := [bw]) (((Part.refl [bw] w).alloc _).drew) hP (by simp)).alloc _⟩
theorem mid_b (h : Words w bk bw ws) (hp : Row w bp 126 l) (hW : Words w2 bk bw ws') (hP : Part [bw] ((w.alloc (.cells noDid.toArray 45)).alloc (.cells noDid.toArray 45)).drew w2) :
    MidAt w bk bw bp ws' l [.int .u8 k, .int .i64 c, .int .u64 saw, .int .u64 put, .bool ok] (w.heap.size + 1)
      (((((w2.setCell ⟨w.heap.size + 1, 0, none⟩ (.int .u8 k)).setCell ⟨w.heap.size + 1, 1, none⟩ (.int .i64 c)).setCell ⟨w.heap.size + 1, 2, none⟩ (.int .u64 saw)).setCell ⟨w.heap.size + 1, 3, none⟩ (.int .u64 put)).setCell ⟨w.heap.size + 1, 4, none⟩ (.bool ok)) := by
  have hn : bp ∉ [bw] := by simpa using hp.ne h.row (by decide)
  have hb := h.row.lt
  have hb' := h.head.lt
  have hpl := hp.lt
  have h0 : w.heap.size ∉ [bw] := by simp; omega
  have h1 : w.heap.size + 1 ∉ [bw] := by simp; omega
  have hr : Row w2 w.heap.size 45 noDid := Row.part ((Row.new w _ _).alloc _).drew hP h0
  have hr1 : Row w2 (w.heap.size + 1) 45 noDid := Row.part (Row.new2 w _ _ _ rfl).drew hP h1
  have hp2 := Row.part ((hp.alloc _).alloc _).drew hP hn
  have hE : Part [w.heap.size + 1] w2 (((((w2.setCell ⟨w.heap.size + 1, 0, none⟩ (.int .u8 k)).setCell ⟨w.heap.size + 1, 1, none⟩ (.int .i64 c)).setCell ⟨w.heap.size + 1, 2, none⟩ (.int .u64 saw)).setCell ⟨w.heap.size + 1, 3, none⟩ (.int .u64 put)).setCell ⟨w.heap.size + 1, 4, none⟩ (.bool ok)) := by
    repeat (refine Part.set ?_ (by simp) _)
    exact Part.refl _ _
  refine ⟨by omega, hW.part hE (by simp; omega) (by simp; omega), hp2.part hE (by simp; omega), ?_, hr.part hE (by simp), ?_⟩
  · exact Row.of_eq (((((hr1.set 0 _).set 1 _).set 2 _).set 3 _).set 4 _) rfl
  · refine Part.trans (S' := [w.heap.size + 1]) (Part.trans (S' := [bw]) ((((Part.refl [bw] w).alloc _).alloc _).drew) hP (by simp)) hE (fun q hq hm => ?_)
    simp at hm
    omega
theorem MidAt.drew {did : List Value} {g : Nat} {wx : World} (h : MidAt w bk bw bp ws l did g wx) : MidAt w bk bw bp ws l did g wx.drew := ⟨h.lo, h.words.drew, h.pend, h.did, h.res, h.part.drew⟩
theorem mid_end {wx wf : World} {l' l'' did : List Value} {g : Nat} (hM : MidAt w bk bw bp ws l did g wx) (h : Words w bk bw ws') (_hp : bp < w.heap.size) (hE : Part [bp, w.heap.size] wx wf) (hr : Row wf bp 126 l') (he : l' = l'') :
    Words wf bk bw ws ∧ Row wf bp 126 l'' ∧ Part [bw, bp] w wf := by
  have h1 := h.head.lt
  have h2 := h.row.lt
  have h3 : bk ≠ bp := hM.words.head.ne hM.pend (by decide)
  have h4 : bw ≠ bp := hM.words.row.ne hM.pend (by decide)
  refine ⟨hM.words.part hE (by simp [h3]; omega) (by simp [h4]; omega), he ▸ hr, ?_⟩
  refine Part.trans (S' := [bp, w.heap.size]) (hM.part.mono (S' := [bw, bp]) (fun q _ hm => by simp at hm; simp [hm])) hE (fun q hq hm => ?_)
  simp at hm ⊢
  omega
end

set_option maxHeartbeats 1600000
set_option maxRecDepth 100000
theorem fadd_any {w : World} {bk bw bp : Nat} {ws : List Int} (h : Words w bk bw ws) {c : Nat} {x s : Int} {y : Int} {nx : Value} (hx : ws[c]? = some x) (hp : Row w bp 126 (pendL bk 3 c y nx s)) :
    Calls Try.prog 62 #[.pointer (some ⟨bp, 0, none⟩)] w (Stepped w bk bw bp (ws.set c (IntKind.u64.wrap (x + y))) (pendL bk 3 c y .nilFunc (IntKind.u64.wrap (x + y))) (.agg #[.int .u8 3, .int .i64 (c : Int), .int .u64 x, .int .u64 (IntKind.u64.wrap (x + y)), .bool true])) := by
  obtain ⟨c0, c1, c2, c3, c4, c5, c6⟩ := pend_cells hp
  have hf := hp.free
  have hbp := hp.lt
  have hbw := h.row.lt
  have HM1 : Hid (w.heap.size + 1 ∉ [bw]) := Lib.hid (by simp; omega)
  have HX := Lib.hid hx
  have H := Lib.hid h
  have HP := Lib.hid hp
  clear h hp hx
  go_enter Try.func62, Try.ntmps62
  go_upto_region 1 with fail
  go_cut [3] (fun s3 wx => Mid w bk bw bp (ws.set c (IntKind.u64.wrap (x + y))) (pendL bk 3 c y nx s) [.int .u8 3, .int .i64 (c : Int), .int .u64 x, .int .u64 (IntKind.u64.wrap (x + y)), .bool true] s3 wx)
  case first =>
    go_region_with (first
      | (go_at_call 81; (with_reducible refine (do_add (H.out.alloc _).drew HX.out).mono ?_); rintro e w2 ⟨rfl, hW2, hP2⟩; have HMA := Lib.hid (mid_a H.out HP.out hW2 hP2 (did := [.int .u8 3, .int .i64 (c : Int), .int .u64 x, .int .u64 (IntKind.u64.wrap (x + y)), .bool true])); clear hW2 hP2)
      | (go_at_call 81; (with_reducible refine (do_add ((H.out.alloc _).alloc _).drew HX.out).mono ?_); rintro e w2 ⟨rfl, hW2, hP2⟩; have HMB := Lib.hid (mid_b H.out HP.out hW2 hP2 (k := 3) (c := (c : Int)) (saw := x) (put := (IntKind.u64.wrap (x + y))) (ok := true)); have hr3 : Row w2 (w.heap.size + 1) 45 noDid := Row.part (Row.new2 w _ _ _ rfl).drew hP2 HM1.out; unfold noDid at hr3; obtain ⟨b0, b1, b2, b3, b4⟩ := hr3.five; have hf3 := hr3.free; have hlt3 := hr3.lt; clear hr3 hW2 hP2))
    all_goals
      go_wp2_with fail
      go_meet
      first | exact ⟨_, rfl, HMA.out⟩ | exact ⟨_, rfl, HMB.out⟩ | exact ⟨_, rfl, HMA.out.drew⟩ | exact ⟨_, rfl, HMB.out.drew⟩
  case rest =>
    obtain ⟨g, rfl, hM⟩ := hcut
    have HM := Lib.hid hM
    obtain ⟨p0, p1, p2, p3, p4, p5, p6⟩ := pend_cells hM.pend
    have pf := hM.pend.free
    have plt := hM.pend.lt
    obtain ⟨b0, b1, b2, b3, b4⟩ := hM.did.five
    have bf := hM.did.free
    have blt := hM.did.lt
    have hres := hM.res
    unfold noDid at hres
    obtain ⟨d0, d1, d2, d3, d4⟩ := hres.five
    have df := hres.free
    have dlt := hres.lt
    have hg := hM.lo
    have e1 : ¬ bp = g := by omega
    have e2 : ¬ g = bp := by omega
    have e3 : ¬ g = w.heap.size := by omega
    have e4 : ¬ w.heap.size = g := by omega
    have e5 : ¬ bp = w.heap.size := by omega
    have e6 : ¬ w.heap.size = bp := by omega
    clear hM hres
    go_wp2
    refine bodyPost_ret (v := .agg #[.int .u8 3, .int .i64 (c : Int), .int .u64 x, .int .u64 (IntKind.u64.wrap (x + y)), .bool true]) (by simp [results, Try.results62, go_sem, d0, d1, d2, d3, d4]) rfl ⟨rfl, ?_⟩
    refine mid_end HM.out H.out hbp (l' := ((pendL bk 3 c y nx s).set 6 (.int .u64 (IntKind.u64.wrap (x + y)))).set 5 .nilFunc) ?_ ?_ (by simp [pendL])
    · repeat (refine Part.set ?_ (by simp) _)
      exact Part.refl _ _
    · repeat (first | (with_reducible exact HM.out.pend) | (with_reducible refine Row.far ?_ (by first | exact e1 | exact e2 | exact e5 | exact e6) _) | (with_reducible refine Row.set ?_ _ _))
theorem fread_any {w : World} {bk bw bp : Nat} {ws : List Int} (h : Words w bk bw ws) {c : Nat} {x s : Int} {nx : Value} (hx : ws[c]? = some x) (hp : Row w bp 126 (pendL bk 1 c 0 nx s)) :
    Calls Try.prog 63 #[.pointer (some ⟨bp, 0, none⟩)] w (Stepped w bk bw bp ws (pendL bk 1 c 0 .nilFunc x) (.agg #[.int .u8 1, .int .i64 (c : Int), .int .u64 x, .int .u64 x, .bool true])) := by
  obtain ⟨c0, c1, c2, c3, c4, c5, c6⟩ := pend_cells hp
  have hf := hp.free
  have hbp := hp.lt
  have hbw := h.row.lt
  have HM1 : Hid (w.heap.size + 1 ∉ [bw]) := Lib.hid (by simp; omega)
  have HX := Lib.hid hx
  have H := Lib.hid h
  have HP := Lib.hid hp
  clear h hp hx
  go_enter Try.func63, Try.ntmps63
  go_upto_region 1 with fail
  go_cut [3] (fun s3 wx => Mid w bk bw bp ws (pendL bk 1 c 0 nx s) [.int .u8 1, .int .i64 (c : Int), .int .u64 x, .int .u64 x, .bool true] s3 wx)
  case first =>
    go_region_with (first
      | (go_at_call 81; (with_reducible refine (do_load (H.out.alloc _).drew HX.out).mono ?_); rintro e w2 ⟨rfl, hW2, hP2⟩; have HMA := Lib.hid (mid_a H.out HP.out hW2 hP2 (did := [.int .u8 1, .int .i64 (c : Int), .int .u64 x, .int .u64 x, .bool true])); clear hW2 hP2)
      | (go_at_call 81; (with_reducible refine (do_load ((H.out.alloc _).alloc _).drew HX.out).mono ?_); rintro e w2 ⟨rfl, hW2, hP2⟩; have HMB := Lib.hid (mid_b H.out HP.out hW2 hP2 (k := 1) (c := (c : Int)) (saw := x) (put := x) (ok := true)); have hr3 : Row w2 (w.heap.size + 1) 45 noDid := Row.part (Row.new2 w _ _ _ rfl).drew hP2 HM1.out; unfold noDid at hr3; obtain ⟨b0, b1, b2, b3, b4⟩ := hr3.five; have hf3 := hr3.free; have hlt3 := hr3.lt; clear hr3 hW2 hP2))
    all_goals
      go_wp2_with fail
      go_meet
      first | exact ⟨_, rfl, HMA.out⟩ | exact ⟨_, rfl, HMB.out⟩ | exact ⟨_, rfl, HMA.out.drew⟩ | exact ⟨_, rfl, HMB.out.drew⟩
  case rest =>
    obtain ⟨g, rfl, hM⟩ := hcut
    have HM := Lib.hid hM
    obtain ⟨p0, p1, p2, p3, p4, p5, p6⟩ := pend_cells hM.pend
    have pf := hM.pend.free
    have plt := hM.pend.lt
    obtain ⟨b0, b1, b2, b3, b4⟩ := hM.did.five
    have bf := hM.did.free
    have blt := hM.did.lt
    have hres := hM.res
    unfold noDid at hres
    obtain ⟨d0, d1, d2, d3, d4⟩ := hres.five
    have df := hres.free
    have dlt := hres.lt
    have hg := hM.lo
    have e1 : ¬ bp = g := by omega
    have e2 : ¬ g = bp := by omega
    have e3 : ¬ g = w.heap.size := by omega
    have e4 : ¬ w.heap.size = g := by omega
    have e5 : ¬ bp = w.heap.size := by omega
    have e6 : ¬ w.heap.size = bp := by omega
    clear hM hres
    go_wp2
    refine bodyPost_ret (v := .agg #[.int .u8 1, .int .i64 (c : Int), .int .u64 x, .int .u64 x, .bool true]) (by simp [results, Try.results63, go_sem, d0, d1, d2, d3, d4]) rfl ⟨rfl, ?_⟩
    refine mid_end HM.out H.out hbp (l' := ((pendL bk 1 c 0 nx s).set 6 (.int .u64 x)).set 5 .nilFunc) ?_ ?_ (by simp [pendL])
    · repeat (refine Part.set ?_ (by simp) _)
      exact Part.refl _ _
    · repeat (first | (with_reducible exact HM.out.pend) | (with_reducible refine Row.far ?_ (by first | exact e1 | exact e2 | exact e5 | exact e6) _) | (with_reducible refine Row.set ?_ _ _))
end Go.Proofs.Ytcocegneegjcpaa
