/- THE WALKS of package quota: what a step's function does. -/
import Derived.Test.YteoekkhgpdhnhaaDoorBb
import Derived.Lib.MinMax
namespace Go.Proofs.YteoekkhgpdhnhaaDoor
open Go Go.RowKit

/-- what a step's function leaves -/
def SteppedB (w : World) (bk bw bp : Nat) (ws : List Int) (l : List Value) (v : Value) (e : Ending) (w' : World) : Prop := e = .returned v ∧ Words w' bk bw ws ∧ Row w' bp 97 l ∧ Part [bw, bp] w w'
theorem mid_fin {w wx wf : World} {bk bw bp g : Nat} {ws ws' : List Int} {did l l' : List Value} (hM : MidA w w.heap.size bk bw ws' did g wx) (h : Words w bk bw ws) (hp : Row w bp 97 l) (hE : Part [bp, w.heap.size] wx wf) (hr : Row wf bp 97 l') :
    Words wf bk bw ws' ∧ Row wf bp 97 l' ∧ Part [bw, bp] w wf := by
  have h1 := h.head.lt
  have h2 := h.row.lt
  have h3 : bk ≠ bp := h.head.ne hp (by decide)
  have h4 : bw ≠ bp := h.row.ne hp (by decide)
  refine ⟨hM.words.part hE (by simp [h3]; omega) (by simp [h4]; omega), hr, ?_⟩
  refine Part.trans (S' := [bp, w.heap.size]) (hM.part.mono (S' := [bw, bp]) (fun q _ hm => by simp at hm; simp [hm])) hE (fun q hq hm => ?_)
  simp at hm ⊢
  omega
section
variable {w : World} {bk bw : Nat} {ws : List Int} {x y z : Int}
theorem bdo_load0 (h : Words w bk bw ws) (hi : ws[0]? = some x) : Calls Tryd.prog 74 #[.pointer (some ⟨bk, 0, none⟩), .agg #[.int .u8 1, .int .i64 0, .int .u64 0, .int .u64 0]] w (Acted w bk bw ws (.tuple #[.agg #[.int .u8 1, .int .i64 0, .int .u64 x, .int .u64 x, .bool true], .int .i64 0])) := do_load (i := 0) h hi
theorem bdo_add0 (h : Words w bk bw ws) (hi : ws[0]? = some x) : Calls Tryd.prog 74 #[.pointer (some ⟨bk, 0, none⟩), .agg #[.int .u8 3, .int .i64 0, .int .u64 0, .int .u64 y]] w (Acted w bk bw (ws.set 0 (IntKind.u64.wrap (x + y))) (.tuple #[.agg #[.int .u8 3, .int .i64 0, .int .u64 x, .int .u64 (IntKind.u64.wrap (x + y)), .bool true], .int .i64 0])) := do_add (i := 0) h hi
theorem bdo_hit0 (h : Words w bk bw ws) (hi : ws[0]? = some x) (hy : U64 y) : Calls Tryd.prog 74 #[.pointer (some ⟨bk, 0, none⟩), .agg #[.int .u8 5, .int .i64 0, .int .u64 x, .int .u64 y]] w (Acted w bk bw (ws.set 0 y) (.tuple #[.agg #[.int .u8 5, .int .i64 0, .int .u64 x, .int .u64 y, .bool true], .int .i64 0])) := do_hit (i := 0) h hi hy
theorem bdo_miss0 (h : Words w bk bw ws) (hi : ws[0]? = some x) (hne : ¬ x = z) : Calls Tryd.prog 74 #[.pointer (some ⟨bk, 0, none⟩), .agg #[.int .u8 5, .int .i64 0, .int .u64 z, .int .u64 y]] w (Acted w bk bw ws (.tuple #[.agg #[.int .u8 5, .int .i64 0, .int .u64 x, .int .u64 x, .bool false], .int .i64 0])) := do_miss (i := 0) h hi hne
end
set_option maxHeartbeats 3200000
set_option maxRecDepth 100000
section
variable {w : World} {bq bk bw bp : Nat} {ba : Int} {ws : List Int} {own saw hand ps sum ans x : Int} {nx : Value}
theorem blook_some (h : QuoM w bq bk bw ba ws) {i : Nat} (hx : ws[i]? = some x) (hz : decide (0 < x) = true) (hp : Row w bp 97 (pendB bq (i : Int) nx saw hand ps sum ans)) :
    Calls Tryd.prog 36 #[.pointer (some ⟨bp, 0, none⟩)] w (SteppedB w bk bw bp ws (pendB bq (i : Int) (fnV 63) x hand ps sum ans) (.agg #[.int .u8 1, .int .i64 (i : Int), .int .u64 x, .int .u64 x, .bool true])) := by
  obtain ⟨c0, c1, c2, c3, c4, c5, c6, c7⟩ := pend_cells hp
  have hbp := hp.lt
  have hbq := h.head.lt
  have hbw := h.words.row.lt
  have kb := h.hb
  have HNB : Hid (bp ∉ [bw]) := Lib.hid (by simpa using hp.ne h.words.row (by decide))
  have HNT : Hid (bq ∉ [bw]) := Lib.hid (by simpa using h.ne)
  have HQP : Hid (¬ bq = bp) := Lib.hid (h.head.ne hp (by decide))
  have HX := Lib.hid hx
  have HH := Lib.hid h.head
  have HQ := Lib.hid h
  have H := Lib.hid h.words
  have HP := Lib.hid hp
  have l1 : bp < w.heap.size + 1 := by omega
  have l2 : bq < w.heap.size + 1 := by omega
  have n1 : ¬ w.heap.size = bp := by omega
  have n2 : ¬ bp = w.heap.size := by omega
  have n3 : ¬ w.heap.size + 1 = bp := by omega
  have n4 : ¬ bp = w.heap.size + 1 := by omega
  have n5 : ¬ w.heap.size + 1 = bq := by omega
  have n6 : ¬ bq = w.heap.size + 1 := by omega
  clear h hp hx
  go_enter Tryd.func36, Tryd.ntmps36
  go_upto_region 1 with fail
  go_cut [3] (fun s9 wx => MidAv w w.heap.size bk bw ws [.int .u8 1, .int .i64 (i : Int), .int .u64 x, .int .u64 x, .bool true] s9 wx)
  case first =>
    go_wp2_with (go_at_call 62; (with_reducible refine (bact_any (HQ.out.alloc _) (HP.out.alloc _) (fun w0 hw0 => do_load hw0 HX.out)).mono ?_); rintro e w2 ⟨rfl, hW2, hP2⟩; have HMA := Lib.hid (mida_a rfl H.out hW2 hP2.undrew (did := [.int .u8 1, .int .i64 (i : Int), .int .u64 x, .int .u64 x, .bool true])); clear hW2 hP2)
    go_meet
    exact ⟨_, rfl, HMA.out⟩
  case rest =>
    obtain ⟨g, rfl, hM⟩ := hcut
    clear c0 c1 c2 c3 c4 c5 c6 c7
    have HM := Lib.hid hM
    have hpx := HP.out.part hM.part HNB.out
    have HPX := Lib.hid hpx
    obtain ⟨p0, p1, p2, p3, p4, p5, p6, p7⟩ := pend_cells hpx
    have pf := hpx.free
    have plt := hpx.lt
    obtain ⟨b0, b1, b2, b3, b4⟩ := hM.did.five
    have blt := hM.did.lt
    have hres := hM.res
    unfold noDid at hres
    obtain ⟨d0, d1, d2, d3, d4⟩ := hres.five
    have df := hres.free
    have dlt := hres.lt
    have hg := hM.lo
    have e1 : ¬ bp = g := hpx.ne hM.did (by decide)
    have e2 : ¬ g = bp := fun e => e1 e.symm
    have e3 : ¬ g = w.heap.size := by omega
    have e4 : ¬ w.heap.size = g := by omega
    clear hM hres hpx
    go_wp2
    refine bodyPost_ret (v := .agg #[.int .u8 1, .int .i64 (i : Int), .int .u64 x, .int .u64 x, .bool true]) (by simp [results, Tryd.results36, go_sem, d0, d1, d2, d3, d4]) rfl ⟨rfl, ?_⟩
    refine mid_fin HM.out H.out HP.out ?_ (Row.of_eq (l := ((pendB bq (i : Int) nx saw hand ps sum ans).set 3 (.int .u64 x)).set 2 (.func (.func 63) #[] #[])) ?_ (by simp [pendB, fnV]))
    · repeat (refine Part.set ?_ (by simp) _)
      exact Part.refl _ _
    · repeat (first | (with_reducible exact HPX.out) | (with_reducible refine Row.far ?_ n1 _) | (with_reducible refine Row.set ?_ _ _))
theorem blook_none (h : QuoM w bq bk bw ba ws) {i : Nat} (hx : ws[i]? = some x) (hz : decide (0 < x) = false) (hp : Row w bp 97 (pendB bq (i : Int) nx saw hand ps sum ans)) :
    Calls Tryd.prog 36 #[.pointer (some ⟨bp, 0, none⟩)] w (SteppedB w bk bw bp ws (pendB bq (i : Int) (fnV 64) saw hand ps sum ans) (.agg #[.int .u8 1, .int .i64 (i : Int), .int .u64 x, .int .u64 x, .bool true])) := by
  obtain ⟨c0, c1, c2, c3, c4, c5, c6, c7⟩ := pend_cells hp
  have hbp := hp.lt
  have hbq := h.head.lt
  have hbw := h.words.row.lt
  have kb := h.hb
  have HNB : Hid (bp ∉ [bw]) := Lib.hid (by simpa using hp.ne h.words.row (by decide))
  have HNT : Hid (bq ∉ [bw]) := Lib.hid (by simpa using h.ne)
  have HQP : Hid (¬ bq = bp) := Lib.hid (h.head.ne hp (by decide))
  have HX := Lib.hid hx
  have HH := Lib.hid h.head
  have HQ := Lib.hid h
  have H := Lib.hid h.words
  have HP := Lib.hid hp
  have l1 : bp < w.heap.size + 1 := by omega
  have l2 : bq < w.heap.size + 1 := by omega
  have n1 : ¬ w.heap.size = bp := by omega
  have n2 : ¬ bp = w.heap.size := by omega
  have n3 : ¬ w.heap.size + 1 = bp := by omega
  have n4 : ¬ bp = w.heap.size + 1 := by omega
  have n5 : ¬ w.heap.size + 1 = bq := by omega
  have n6 : ¬ bq = w.heap.size + 1 := by omega
  clear h hp hx
  go_enter Tryd.func36, Tryd.ntmps36
  go_upto_region 1 with fail
  go_cut [3] (fun s9 wx => MidAv w w.heap.size bk bw ws [.int .u8 1, .int .i64 (i : Int), .int .u64 x, .int .u64 x, .bool true] s9 wx)
  case first =>
    go_wp2_with (go_at_call 62; (with_reducible refine (bact_any (HQ.out.alloc _) (HP.out.alloc _) (fun w0 hw0 => do_load hw0 HX.out)).mono ?_); rintro e w2 ⟨rfl, hW2, hP2⟩; have HMA := Lib.hid (mida_a rfl H.out hW2 hP2.undrew (did := [.int .u8 1, .int .i64 (i : Int), .int .u64 x, .int .u64 x, .bool true])); clear hW2 hP2)
    go_meet
    exact ⟨_, rfl, HMA.out⟩
  case rest =>
    obtain ⟨g, rfl, hM⟩ := hcut
    clear c0 c1 c2 c3 c4 c5 c6 c7
    have HM := Lib.hid hM
    have hpx := HP.out.part hM.part HNB.out
    have HPX := Lib.hid hpx
    obtain ⟨p0, p1, p2, p3, p4, p5, p6, p7⟩ := pend_cells hpx
    have pf := hpx.free
    have plt := hpx.lt
    obtain ⟨b0, b1, b2, b3, b4⟩ := hM.did.five
    have blt := hM.did.lt
    have hres := hM.res
    unfold noDid at hres
    obtain ⟨d0, d1, d2, d3, d4⟩ := hres.five
    have df := hres.free
    have dlt := hres.lt
    have hg := hM.lo
    have e1 : ¬ bp = g := hpx.ne hM.did (by decide)
    have e2 : ¬ g = bp := fun e => e1 e.symm
    have e3 : ¬ g = w.heap.size := by omega
    have e4 : ¬ w.heap.size = g := by omega
    clear hM hres hpx
    go_wp2
    refine bodyPost_ret (v := .agg #[.int .u8 1, .int .i64 (i : Int), .int .u64 x, .int .u64 x, .bool true]) (by simp [results, Tryd.results36, go_sem, d0, d1, d2, d3, d4]) rfl ⟨rfl, ?_⟩
    refine mid_fin HM.out H.out HP.out ?_ (Row.of_eq (l := (pendB bq (i : Int) nx saw hand ps sum ans).set 2 (.func (.func 64) #[] #[])) ?_ (by simp [pendB, fnV]))
    · repeat (refine Part.set ?_ (by simp) _)
      exact Part.refl _ _
    · repeat (first | (with_reducible exact HPX.out) | (with_reducible refine Row.far ?_ n1 _) | (with_reducible refine Row.set ?_ _ _))
theorem bpool_some (h : QuoM w bq bk bw ba ws) (hx : ws[0]? = some x) (hz : decide (0 < x) = true) (hp : Row w bp 97 (pendB bq own nx saw hand ps sum ans)) :
    Calls Tryd.prog 64 #[.pointer (some ⟨bp, 0, none⟩)] w (SteppedB w bk bw bp ws (pendB bq own (fnV 88) x hand ps sum ans) (.agg #[.int .u8 1, .int .i64 0, .int .u64 x, .int .u64 x, .bool true])) := by
  obtain ⟨c0, c1, c2, c3, c4, c5, c6, c7⟩ := pend_cells hp
  have hbp := hp.lt
  have hbq := h.head.lt
  have hbw := h.words.row.lt
  have kb := h.hb
  have HNB : Hid (bp ∉ [bw]) := Lib.hid (by simpa using hp.ne h.words.row (by decide))
  have HNT : Hid (bq ∉ [bw]) := Lib.hid (by simpa using h.ne)
  have HQP : Hid (¬ bq = bp) := Lib.hid (h.head.ne hp (by decide))
  have HX := Lib.hid hx
  have HH := Lib.hid h.head
  have HQ := Lib.hid h
  have H := Lib.hid h.words
  have HP := Lib.hid hp
  have l1 : bp < w.heap.size + 1 := by omega
  have l2 : bq < w.heap.size + 1 := by omega
  have n1 : ¬ w.heap.size = bp := by omega
  have n2 : ¬ bp = w.heap.size := by omega
  have n3 : ¬ w.heap.size + 1 = bp := by omega
  have n4 : ¬ bp = w.heap.size + 1 := by omega
  have n5 : ¬ w.heap.size + 1 = bq := by omega
  have n6 : ¬ bq = w.heap.size + 1 := by omega
  clear h hp hx
  go_enter Tryd.func64, Tryd.ntmps64
  go_upto_region 1 with fail
  go_cut [3] (fun s9 wx => MidAv w w.heap.size bk bw ws [.int .u8 1, .int .i64 0, .int .u64 x, .int .u64 x, .bool true] s9 wx)
  case first =>
    go_wp2_with (go_at_call 62; (with_reducible refine (bact_any (HQ.out.alloc _) (HP.out.alloc _) (fun w0 hw0 => bdo_load0 hw0 HX.out)).mono ?_); rintro e w2 ⟨rfl, hW2, hP2⟩; have HMA := Lib.hid (mida_a rfl H.out hW2 hP2.undrew (did := [.int .u8 1, .int .i64 0, .int .u64 x, .int .u64 x, .bool true])); clear hW2 hP2)
    go_meet
    exact ⟨_, rfl, HMA.out⟩
  case rest =>
    obtain ⟨g, rfl, hM⟩ := hcut
    clear c0 c1 c2 c3 c4 c5 c6 c7
    have HM := Lib.hid hM
    have hpx := HP.out.part hM.part HNB.out
    have HPX := Lib.hid hpx
    obtain ⟨p0, p1, p2, p3, p4, p5, p6, p7⟩ := pend_cells hpx
    have pf := hpx.free
    have plt := hpx.lt
    obtain ⟨b0, b1, b2, b3, b4⟩ := hM.did.five
    have blt := hM.did.lt
    have hres := hM.res
    unfold noDid at hres
    obtain ⟨d0, d1, d2, d3, d4⟩ := hres.five
    have df := hres.free
    have dlt := hres.lt
    have hg := hM.lo
    have e1 : ¬ bp = g := hpx.ne hM.did (by decide)
    have e2 : ¬ g = bp := fun e => e1 e.symm
    have e3 : ¬ g = w.heap.size := by omega
    have e4 : ¬ w.heap.size = g := by omega
    clear hM hres hpx
    go_wp2
    refine bodyPost_ret (v := .agg #[.int .u8 1, .int .i64 0, .int .u64 x, .int .u64 x, .bool true]) (by simp [results, Tryd.results64, go_sem, d0, d1, d2, d3, d4]) rfl ⟨rfl, ?_⟩
    refine mid_fin HM.out H.out HP.out ?_ (Row.of_eq (l := ((pendB bq own nx saw hand ps sum ans).set 3 (.int .u64 x)).set 2 (.func (.func 88) #[] #[])) ?_ (by simp [pendB, fnV]))
    · repeat (refine Part.set ?_ (by simp) _)
      exact Part.refl _ _
    · repeat (first | (with_reducible exact HPX.out) | (with_reducible refine Row.far ?_ n1 _) | (with_reducible refine Row.set ?_ _ _))
theorem bpool_none (h : QuoM w bq bk bw ba ws) (hx : ws[0]? = some x) (hz : decide (0 < x) = false) (hp : Row w bp 97 (pendB bq own nx saw hand ps sum ans)) :
    Calls Tryd.prog 64 #[.pointer (some ⟨bp, 0, none⟩)] w (SteppedB w bk bw bp ws (pendB bq own .nilFunc saw hand ps sum 0) (.agg #[.int .u8 1, .int .i64 0, .int .u64 x, .int .u64 x, .bool true])) := by
  obtain ⟨c0, c1, c2, c3, c4, c5, c6, c7⟩ := pend_cells hp
  have hbp := hp.lt
  have hbq := h.head.lt
  have hbw := h.words.row.lt
  have kb := h.hb
  have HNB : Hid (bp ∉ [bw]) := Lib.hid (by simpa using hp.ne h.words.row (by decide))
  have HNT : Hid (bq ∉ [bw]) := Lib.hid (by simpa using h.ne)
  have HQP : Hid (¬ bq = bp) := Lib.hid (h.head.ne hp (by decide))
  have HX := Lib.hid hx
  have HH := Lib.hid h.head
  have HQ := Lib.hid h
  have H := Lib.hid h.words
  have HP := Lib.hid hp
  have l1 : bp < w.heap.size + 1 := by omega
  have l2 : bq < w.heap.size + 1 := by omega
  have n1 : ¬ w.heap.size = bp := by omega
  have n2 : ¬ bp = w.heap.size := by omega
  have n3 : ¬ w.heap.size + 1 = bp := by omega
  have n4 : ¬ bp = w.heap.size + 1 := by omega
  have n5 : ¬ w.heap.size + 1 = bq := by omega
  have n6 : ¬ bq = w.heap.size + 1 := by omega
  clear h hp hx
  go_enter Tryd.func64, Tryd.ntmps64
  go_upto_region 1 with fail
  go_cut [3] (fun s9 wx => MidAv w w.heap.size bk bw ws [.int .u8 1, .int .i64 0, .int .u64 x, .int .u64 x, .bool true] s9 wx)
  case first =>
    go_wp2_with (go_at_call 62; (with_reducible refine (bact_any (HQ.out.alloc _) (HP.out.alloc _) (fun w0 hw0 => bdo_load0 hw0 HX.out)).mono ?_); rintro e w2 ⟨rfl, hW2, hP2⟩; have HMA := Lib.hid (mida_a rfl H.out hW2 hP2.undrew (did := [.int .u8 1, .int .i64 0, .int .u64 x, .int .u64 x, .bool true])); clear hW2 hP2)
    go_meet
    exact ⟨_, rfl, HMA.out⟩
  case rest =>
    obtain ⟨g, rfl, hM⟩ := hcut
    clear c0 c1 c2 c3 c4 c5 c6 c7
    have HM := Lib.hid hM
    have hpx := HP.out.part hM.part HNB.out
    have HPX := Lib.hid hpx
    obtain ⟨p0, p1, p2, p3, p4, p5, p6, p7⟩ := pend_cells hpx
    have pf := hpx.free
    have plt := hpx.lt
    obtain ⟨b0, b1, b2, b3, b4⟩ := hM.did.five
    have blt := hM.did.lt
    have hres := hM.res
    unfold noDid at hres
    obtain ⟨d0, d1, d2, d3, d4⟩ := hres.five
    have df := hres.free
    have dlt := hres.lt
    have hg := hM.lo
    have e1 : ¬ bp = g := hpx.ne hM.did (by decide)
    have e2 : ¬ g = bp := fun e => e1 e.symm
    have e3 : ¬ g = w.heap.size := by omega
    have e4 : ¬ w.heap.size = g := by omega
    clear hM hres hpx
    go_wp2_with (go_at_call 66; (with_reducible refine (bend_any (y := 0) HPX.out).mono ?_); rintro e w3 ⟨rfl, hr3, hP3⟩; obtain ⟨b0, b1, b2, b3, b4⟩ := (HM.out.did.part (Part.trans (S' := [bp]) (Part.refl [bp] _) hP3 (fun _ _ hm => hm)) (by simpa using e2)).five; have hres3 := HM.out.res.part (Part.trans (S' := [bp]) (Part.refl [bp] _) hP3 (fun _ _ hm => hm)) (by simpa using n1); unfold noDid at hres3; obtain ⟨d0, d1, d2, d3, d4⟩ := hres3.five; have df := hres3.free; have dlt := hres3.lt; have HR3 := Lib.hid hr3; have HE3 := Lib.hid (Part.trans (S' := [bp]) (Part.refl [bp] _) hP3 (fun _ _ hm => hm)); clear hres3 hr3 hP3)
    refine bodyPost_ret (v := .agg #[.int .u8 1, .int .i64 0, .int .u64 x, .int .u64 x, .bool true]) (by simp [results, Tryd.results64, go_sem, d0, d1, d2, d3, d4]) rfl ⟨rfl, ?_⟩
    refine mid_fin HM.out H.out HP.out ?_ ?_
    · repeat (refine Part.set ?_ (by simp) _)
      exact HE3.out.mono (fun q _ hm => by simp at hm ⊢; exact Or.inl hm)
    · repeat (first | (with_reducible exact HR3.out) | (with_reducible refine Row.far ?_ n1 _))
theorem bempty_some (h : QuoM w bq bk bw ba ws) {i : Nat} (hx : ws[i]? = some x) (hz : decide (0 < x) = true) (hp : Row w bp 97 (pendB bq (i : Int) nx saw hand ps sum ans)) :
    Calls Tryd.prog 37 #[.pointer (some ⟨bp, 0, none⟩)] w (SteppedB w bk bw bp (ws.set i 0) (pendB bq (i : Int) (fnV 65) saw x ps sum ans) (.agg #[.int .u8 4, .int .i64 (i : Int), .int .u64 x, .int .u64 0, .bool true])) := by
  obtain ⟨c0, c1, c2, c3, c4, c5, c6, c7⟩ := pend_cells hp
  have hbp := hp.lt
  have hbq := h.head.lt
  have hbw := h.words.row.lt
  have kb := h.hb
  have HNB : Hid (bp ∉ [bw]) := Lib.hid (by simpa using hp.ne h.words.row (by decide))
  have HNT : Hid (bq ∉ [bw]) := Lib.hid (by simpa using h.ne)
  have HQP : Hid (¬ bq = bp) := Lib.hid (h.head.ne hp (by decide))
  have HX := Lib.hid hx
  have HH := Lib.hid h.head
  have HQ := Lib.hid h
  have H := Lib.hid h.words
  have HP := Lib.hid hp
  have l1 : bp < w.heap.size + 1 := by omega
  have l2 : bq < w.heap.size + 1 := by omega
  have n1 : ¬ w.heap.size = bp := by omega
  have n2 : ¬ bp = w.heap.size := by omega
  have n3 : ¬ w.heap.size + 1 = bp := by omega
  have n4 : ¬ bp = w.heap.size + 1 := by omega
  have n5 : ¬ w.heap.size + 1 = bq := by omega
  have n6 : ¬ bq = w.heap.size + 1 := by omega
  clear h hp hx
  go_enter Tryd.func37, Tryd.ntmps37
  go_upto_region 1 with fail
  go_cut [3] (fun s9 wx => MidAv w w.heap.size bk bw (ws.set i 0) [.int .u8 4, .int .i64 (i : Int), .int .u64 x, .int .u64 0, .bool true] s9 wx)
  case first =>
    go_wp2_with (go_at_call 62; (with_reducible refine (bact_any (HQ.out.alloc _) (HP.out.alloc _) (fun w0 hw0 => do_swap hw0 HX.out U64.zero)).mono ?_); rintro e w2 ⟨rfl, hW2, hP2⟩; have HMA := Lib.hid (mida_a rfl H.out hW2 hP2.undrew (did := [.int .u8 4, .int .i64 (i : Int), .int .u64 x, .int .u64 0, .bool true])); clear hW2 hP2)
    go_meet
    exact ⟨_, rfl, HMA.out⟩
  case rest =>
    obtain ⟨g, rfl, hM⟩ := hcut
    clear c0 c1 c2 c3 c4 c5 c6 c7
    have HM := Lib.hid hM
    have hpx := HP.out.part hM.part HNB.out
    have HPX := Lib.hid hpx
    obtain ⟨p0, p1, p2, p3, p4, p5, p6, p7⟩ := pend_cells hpx
    have pf := hpx.free
    have plt := hpx.lt
    obtain ⟨b0, b1, b2, b3, b4⟩ := hM.did.five
    have blt := hM.did.lt
    have hres := hM.res
    unfold noDid at hres
    obtain ⟨d0, d1, d2, d3, d4⟩ := hres.five
    have df := hres.free
    have dlt := hres.lt
    have hg := hM.lo
    have e1 : ¬ bp = g := hpx.ne hM.did (by decide)
    have e2 : ¬ g = bp := fun e => e1 e.symm
    have e3 : ¬ g = w.heap.size := by omega
    have e4 : ¬ w.heap.size = g := by omega
    clear hM hres hpx
    go_wp2
    refine bodyPost_ret (v := .agg #[.int .u8 4, .int .i64 (i : Int), .int .u64 x, .int .u64 0, .bool true]) (by simp [results, Tryd.results37, go_sem, d0, d1, d2, d3, d4]) rfl ⟨rfl, ?_⟩
    refine mid_fin HM.out H.out HP.out ?_ (Row.of_eq (l := ((pendB bq (i : Int) nx saw hand ps sum ans).set 4 (.int .u64 x)).set 2 (.func (.func 65) #[] #[])) ?_ (by simp [pendB, fnV]))
    · repeat (refine Part.set ?_ (by simp) _)
      exact Part.refl _ _
    · repeat (first | (with_reducible exact HPX.out) | (with_reducible refine Row.far ?_ n1 _) | (with_reducible refine Row.set ?_ _ _))
theorem bempty_none (h : QuoM w bq bk bw ba ws) {i : Nat} (hx : ws[i]? = some x) (hz : decide (0 < x) = false) (hp : Row w bp 97 (pendB bq (i : Int) nx saw hand ps sum ans)) :
    Calls Tryd.prog 37 #[.pointer (some ⟨bp, 0, none⟩)] w (SteppedB w bk bw bp (ws.set i 0) (pendB bq (i : Int) .nilFunc saw hand ps sum 0) (.agg #[.int .u8 4, .int .i64 (i : Int), .int .u64 x, .int .u64 0, .bool true])) := by
  obtain ⟨c0, c1, c2, c3, c4, c5, c6, c7⟩ := pend_cells hp
  have hbp := hp.lt
  have hbq := h.head.lt
  have hbw := h.words.row.lt
  have kb := h.hb
  have HNB : Hid (bp ∉ [bw]) := Lib.hid (by simpa using hp.ne h.words.row (by decide))
  have HNT : Hid (bq ∉ [bw]) := Lib.hid (by simpa using h.ne)
  have HQP : Hid (¬ bq = bp) := Lib.hid (h.head.ne hp (by decide))
  have HX := Lib.hid hx
  have HH := Lib.hid h.head
  have HQ := Lib.hid h
  have H := Lib.hid h.words
  have HP := Lib.hid hp
  have l1 : bp < w.heap.size + 1 := by omega
  have l2 : bq < w.heap.size + 1 := by omega
  have n1 : ¬ w.heap.size = bp := by omega
  have n2 : ¬ bp = w.heap.size := by omega
  have n3 : ¬ w.heap.size + 1 = bp := by omega
  have n4 : ¬ bp = w.heap.size + 1 := by omega
  have n5 : ¬ w.heap.size + 1 = bq := by omega
  have n6 : ¬ bq = w.heap.size + 1 := by omega
  clear h hp hx
  go_enter Tryd.func37, Tryd.ntmps37
  go_upto_region 1 with fail
  go_cut [3] (fun s9 wx => MidAv w w.heap.size bk bw (ws.set i 0) [.int .u8 4, .int .i64 (i : Int), .int .u64 x, .int .u64 0, .bool true] s9 wx)
  case first =>
    go_wp2_with (go_at_call 62; (with_reducible refine (bact_any (HQ.out.alloc _) (HP.out.alloc _) (fun w0 hw0 => do_swap hw0 HX.out U64.zero)).mono ?_); rintro e w2 ⟨rfl, hW2, hP2⟩; have HMA := Lib.hid (mida_a rfl H.out hW2 hP2.undrew (did := [.int .u8 4, .int .i64 (i : Int), .int .u64 x, .int .u64 0, .bool true])); clear hW2 hP2)
    go_meet
    exact ⟨_, rfl, HMA.out⟩
  case rest =>
    obtain ⟨g, rfl, hM⟩ := hcut
    clear c0 c1 c2 c3 c4 c5 c6 c7
    have HM := Lib.hid hM
    have hpx := HP.out.part hM.part HNB.out
    have HPX := Lib.hid hpx
    obtain ⟨p0, p1, p2, p3, p4, p5, p6, p7⟩ := pend_cells hpx
    have pf := hpx.free
    have plt := hpx.lt
    obtain ⟨b0, b1, b2, b3, b4⟩ := hM.did.five
    have blt := hM.did.lt
    have hres := hM.res
    unfold noDid at hres
    obtain ⟨d0, d1, d2, d3, d4⟩ := hres.five
    have df := hres.free
    have dlt := hres.lt
    have hg := hM.lo
    have e1 : ¬ bp = g := hpx.ne hM.did (by decide)
    have e2 : ¬ g = bp := fun e => e1 e.symm
    have e3 : ¬ g = w.heap.size := by omega
    have e4 : ¬ w.heap.size = g := by omega
    clear hM hres hpx
    go_wp2_with (go_at_call 66; (with_reducible refine (bend_any (y := 0) HPX.out).mono ?_); rintro e w3 ⟨rfl, hr3, hP3⟩; obtain ⟨b0, b1, b2, b3, b4⟩ := (HM.out.did.part (Part.trans (S' := [bp]) (Part.refl [bp] _) hP3 (fun _ _ hm => hm)) (by simpa using e2)).five; have hres3 := HM.out.res.part (Part.trans (S' := [bp]) (Part.refl [bp] _) hP3 (fun _ _ hm => hm)) (by simpa using n1); unfold noDid at hres3; obtain ⟨d0, d1, d2, d3, d4⟩ := hres3.five; have df := hres3.free; have dlt := hres3.lt; have HR3 := Lib.hid hr3; have HE3 := Lib.hid (Part.trans (S' := [bp]) (Part.refl [bp] _) hP3 (fun _ _ hm => hm)); clear hres3 hr3 hP3)
    refine bodyPost_ret (v := .agg #[.int .u8 4, .int .i64 (i : Int), .int .u64 x, .int .u64 0, .bool true]) (by simp [results, Tryd.results37, go_sem, d0, d1, d2, d3, d4]) rfl ⟨rfl, ?_⟩
    refine mid_fin HM.out H.out HP.out ?_ ?_
    · repeat (refine Part.set ?_ (by simp) _)
      exact HE3.out.mono (fun q _ hm => by simp at hm ⊢; exact Or.inl hm)
    · repeat (first | (with_reducible exact HR3.out) | (with_reducible refine Row.far ?_ n1 _))
theorem bgive_any {y : Int} (h : QuoM w bq bk bw ba ws) (hx : ws[0]? = some x) (hh : IntKind.i64.wrap hand = y) (hp : Row w bp 97 (pendB bq own nx saw hand ps sum ans)) :
    Calls Tryd.prog 65 #[.pointer (some ⟨bp, 0, none⟩)] w (SteppedB w bk bw bp (ws.set 0 (IntKind.u64.wrap (x + hand))) (pendB bq own .nilFunc saw hand ps sum y) (.agg #[.int .u8 3, .int .i64 0, .int .u64 x, .int .u64 (IntKind.u64.wrap (x + hand)), .bool true])) := by
  obtain ⟨c0, c1, c2, c3, c4, c5, c6, c7⟩ := pend_cells hp
  have hbp := hp.lt
  have hbq := h.head.lt
  have hbw := h.words.row.lt
  have kb := h.hb
  have HNB : Hid (bp ∉ [bw]) := Lib.hid (by simpa using hp.ne h.words.row (by decide))
  have HNT : Hid (bq ∉ [bw]) := Lib.hid (by simpa using h.ne)
  have HQP : Hid (¬ bq = bp) := Lib.hid (h.head.ne hp (by decide))
  have HX := Lib.hid hx
  have HH := Lib.hid h.head
  have HQ := Lib.hid h
  have H := Lib.hid h.words
  have HP := Lib.hid hp
  have l1 : bp < w.heap.size + 1 := by omega
  have l2 : bq < w.heap.size + 1 := by omega
  have n1 : ¬ w.heap.size = bp := by omega
  have n2 : ¬ bp = w.heap.size := by omega
  have n3 : ¬ w.heap.size + 1 = bp := by omega
  have n4 : ¬ bp = w.heap.size + 1 := by omega
  have n5 : ¬ w.heap.size + 1 = bq := by omega
  have n6 : ¬ bq = w.heap.size + 1 := by omega
  clear h hp hx
  go_enter Tryd.func65, Tryd.ntmps65
  go_upto_region 1 with fail
  go_cut [3] (fun s9 wx => MidAv w w.heap.size bk bw (ws.set 0 (IntKind.u64.wrap (x + hand))) [.int .u8 3, .int .i64 0, .int .u64 x, .int .u64 (IntKind.u64.wrap (x + hand)), .bool true] s9 wx)
  case first =>
    go_wp2_with (go_at_call 62; (with_reducible refine (bact_any (HQ.out.alloc _) (HP.out.alloc _) (fun w0 hw0 => bdo_add0 hw0 HX.out)).mono ?_); rintro e w2 ⟨rfl, hW2, hP2⟩; have HMA := Lib.hid (mida_a rfl H.out hW2 hP2.undrew (did := [.int .u8 3, .int .i64 0, .int .u64 x, .int .u64 (IntKind.u64.wrap (x + hand)), .bool true])); clear hW2 hP2)
    go_meet
    exact ⟨_, rfl, HMA.out⟩
  case rest =>
    obtain ⟨g, rfl, hM⟩ := hcut
    clear c0 c1 c2 c3 c4 c5 c6 c7
    have HM := Lib.hid hM
    have hpx := HP.out.part hM.part HNB.out
    have HPX := Lib.hid hpx
    obtain ⟨p0, p1, p2, p3, p4, p5, p6, p7⟩ := pend_cells hpx
    have pf := hpx.free
    have plt := hpx.lt
    obtain ⟨b0, b1, b2, b3, b4⟩ := hM.did.five
    have blt := hM.did.lt
    have hres := hM.res
    unfold noDid at hres
    obtain ⟨d0, d1, d2, d3, d4⟩ := hres.five
    have df := hres.free
    have dlt := hres.lt
    have hg := hM.lo
    have e1 : ¬ bp = g := hpx.ne hM.did (by decide)
    have e2 : ¬ g = bp := fun e => e1 e.symm
    have e3 : ¬ g = w.heap.size := by omega
    have e4 : ¬ w.heap.size = g := by omega
    clear hM hres hpx
    go_wp2_with (go_at_call 66; (with_reducible refine (bend_any (y := y) HPX.out).mono ?_); rintro e w3 ⟨rfl, hr3, hP3⟩; obtain ⟨b0, b1, b2, b3, b4⟩ := (HM.out.did.part (Part.trans (S' := [bp]) (Part.refl [bp] _) hP3 (fun _ _ hm => hm)) (by simpa using e2)).five; have hres3 := HM.out.res.part (Part.trans (S' := [bp]) (Part.refl [bp] _) hP3 (fun _ _ hm => hm)) (by simpa using n1); unfold noDid at hres3; obtain ⟨d0, d1, d2, d3, d4⟩ := hres3.five; have df := hres3.free; have dlt := hres3.lt; have HR3 := Lib.hid hr3; have HE3 := Lib.hid (Part.trans (S' := [bp]) (Part.refl [bp] _) hP3 (fun _ _ hm => hm)); clear hres3 hr3 hP3)
    refine bodyPost_ret (v := .agg #[.int .u8 3, .int .i64 0, .int .u64 x, .int .u64 (IntKind.u64.wrap (x + hand)), .bool true]) (by simp [results, Tryd.results65, go_sem, d0, d1, d2, d3, d4]) rfl ⟨rfl, ?_⟩
    refine mid_fin HM.out H.out HP.out ?_ ?_
    · repeat (refine Part.set ?_ (by simp) _)
      exact HE3.out.mono (fun q _ hm => by simp at hm ⊢; exact Or.inl hm)
    · repeat (first | (with_reducible exact HR3.out) | (with_reducible refine Row.far ?_ n1 _))
theorem bhold_any (h : QuoM w bq bk bw ba ws) {i : Nat} (hx : ws[i]? = some x) (hp : Row w bp 97 (pendB bq (i : Int) nx saw hand ps sum ans)) :
    Calls Tryd.prog 105 #[.pointer (some ⟨bp, 0, none⟩)] w (SteppedB w bk bw bp (ws.set i (IntKind.u64.wrap (x + hand))) (pendB bq (i : Int) .nilFunc saw hand ps sum 1) (.agg #[.int .u8 3, .int .i64 (i : Int), .int .u64 x, .int .u64 (IntKind.u64.wrap (x + hand)), .bool true])) := by
  obtain ⟨c0, c1, c2, c3, c4, c5, c6, c7⟩ := pend_cells hp
  have hbp := hp.lt
  have hbq := h.head.lt
  have hbw := h.words.row.lt
  have kb := h.hb
  have HNB : Hid (bp ∉ [bw]) := Lib.hid (by simpa using hp.ne h.words.row (by decide))
  have HNT : Hid (bq ∉ [bw]) := Lib.hid (by simpa using h.ne)
  have HQP : Hid (¬ bq = bp) := Lib.hid (h.head.ne hp (by decide))
  have HX := Lib.hid hx
  have HH := Lib.hid h.head
  have HQ := Lib.hid h
  have H := Lib.hid h.words
  have HP := Lib.hid hp
  have l1 : bp < w.heap.size + 1 := by omega
  have l2 : bq < w.heap.size + 1 := by omega
  have n1 : ¬ w.heap.size = bp := by omega
  have n2 : ¬ bp = w.heap.size := by omega
  have n3 : ¬ w.heap.size + 1 = bp := by omega
  have n4 : ¬ bp = w.heap.size + 1 := by omega
  have n5 : ¬ w.heap.size + 1 = bq := by omega
  have n6 : ¬ bq = w.heap.size + 1 := by omega
  clear h hp hx
  go_enter Tryd.func105, Tryd.ntmps105
  go_upto_region 1 with fail
  go_cut [3] (fun s9 wx => MidAv w w.heap.size bk bw (ws.set i (IntKind.u64.wrap (x + hand))) [.int .u8 3, .int .i64 (i : Int), .int .u64 x, .int .u64 (IntKind.u64.wrap (x + hand)), .bool true] s9 wx)
  case first =>
    have kp : ((w.alloc (.cells #[.int .u8 0, .int .i64 0, .int .u64 0, .int .u64 0, .bool false] 39)).alloc (.cells #[.int .u8 0, .int .i64 0, .int .u64 0, .int .u64 0, .bool false] 39)).drew.cell? ⟨bp, 0, none⟩ = some (.pointer (some ⟨bq, 0, none⟩)) := (Row.drew ((HP.out.alloc _).alloc _)).cell 0
    go_region_held3 (fun w' => w'.cell? ⟨bp, 1, none⟩ = some (.int .i64 (i : Int)) ∧ w'.cell? ⟨bp, 3, none⟩ = some (.int .u64 saw) ∧ w'.cell? ⟨bp, 4, none⟩ = some (.int .u64 hand))
      (first | (with_reducible exact ⟨q1, q3, q4⟩) | (simp [World.cell?_alloc_some, World.cell?_setCell_far, n3, q1, q3, q4]; done) | (simp [World.cell?_alloc_some, c1, c3, c4]; done) | go_keep)
      (first
      | (go_at_call 62; (with_reducible refine (bact_any (HQ.out.alloc _).drew (HP.out.alloc _).drew (fun w0 hw0 => do_add hw0 HX.out)).mono ?_); rintro e w2 ⟨rfl, hW2, hP2⟩; obtain ⟨q0, q1, q2, q3, q4, q5, q6, q7⟩ := pend_cells (Row.part (Row.drew (HP.out.alloc _)) hP2 HNB.out); have HMA := Lib.hid (mida_a rfl H.out hW2 hP2 (did := [.int .u8 3, .int .i64 (i : Int), .int .u64 x, .int .u64 (IntKind.u64.wrap (x + hand)), .bool true])); clear hW2 hP2)
      | (go_at_call 62; (with_reducible refine (bact_any ((HQ.out.alloc _).alloc _).drew ((HP.out.alloc _).alloc _).drew (fun w0 hw0 => do_add hw0 HX.out)).mono ?_); rintro e w2 ⟨rfl, hW2, hP2⟩; obtain ⟨q0, q1, q2, q3, q4, q5, q6, q7⟩ := pend_cells (Row.part (Row.drew ((HP.out.alloc _).alloc _)) hP2 HNB.out); have HMB := Lib.hid (mida_b rfl H.out hW2 hP2 (k := 3) (c := (i : Int)) (saw := x) (put := (IntKind.u64.wrap (x + hand))) (ok := true)); have hr3 : Row w2 (w.heap.size + 1) 39 noDid := nodid_at rfl rfl hbw hP2; unfold noDid at hr3; obtain ⟨b0, b1, b2, b3, b4⟩ := hr3.five; have hf3 := hr3.free; have hlt3 := hr3.lt; clear hr3 hW2 hP2))
    all_goals
      go_wp2_with fail
      go_meet
      first | exact ⟨_, rfl, HMA.out⟩ | exact ⟨_, rfl, HMB.out⟩ | exact ⟨_, rfl, HMA.out.drew⟩ | exact ⟨_, rfl, HMB.out.drew⟩
  case rest =>
    obtain ⟨g, rfl, hM⟩ := hcut
    clear c0 c1 c2 c3 c4 c5 c6 c7
    have HM := Lib.hid hM
    have hpx := HP.out.part hM.part HNB.out
    have HPX := Lib.hid hpx
    obtain ⟨p0, p1, p2, p3, p4, p5, p6, p7⟩ := pend_cells hpx
    have pf := hpx.free
    have plt := hpx.lt
    obtain ⟨b0, b1, b2, b3, b4⟩ := hM.did.five
    have blt := hM.did.lt
    have hres := hM.res
    unfold noDid at hres
    obtain ⟨d0, d1, d2, d3, d4⟩ := hres.five
    have df := hres.free
    have dlt := hres.lt
    have hg := hM.lo
    have e1 : ¬ bp = g := hpx.ne hM.did (by decide)
    have e2 : ¬ g = bp := fun e => e1 e.symm
    have e3 : ¬ g = w.heap.size := by omega
    have e4 : ¬ w.heap.size = g := by omega
    clear hM hres hpx
    go_wp2_with (go_at_call 66; (with_reducible refine (bend_any (y := 1) HPX.out).mono ?_); rintro e w3 ⟨rfl, hr3, hP3⟩; obtain ⟨b0, b1, b2, b3, b4⟩ := (HM.out.did.part (Part.trans (S' := [bp]) (Part.refl [bp] _) hP3 (fun _ _ hm => hm)) (by simpa using e2)).five; have hres3 := HM.out.res.part (Part.trans (S' := [bp]) (Part.refl [bp] _) hP3 (fun _ _ hm => hm)) (by simpa using n1); unfold noDid at hres3; obtain ⟨d0, d1, d2, d3, d4⟩ := hres3.five; have df := hres3.free; have dlt := hres3.lt; have HR3 := Lib.hid hr3; have HE3 := Lib.hid (Part.trans (S' := [bp]) (Part.refl [bp] _) hP3 (fun _ _ hm => hm)); clear hres3 hr3 hP3)
    refine bodyPost_ret (v := .agg #[.int .u8 3, .int .i64 (i : Int), .int .u64 x, .int .u64 (IntKind.u64.wrap (x + hand)), .bool true]) (by simp [results, Tryd.results105, go_sem, d0, d1, d2, d3, d4]) rfl ⟨rfl, ?_⟩
    refine mid_fin HM.out H.out HP.out ?_ ?_
    · repeat (refine Part.set ?_ (by simp) _)
      exact HE3.out.mono (fun q _ hm => by simp at hm ⊢; exact Or.inl hm)
    · repeat (first | (with_reducible exact HR3.out) | (with_reducible refine Row.far ?_ n1 _))
theorem bspend_hit (h : QuoM w bq bk bw ba ws) {i : Nat} {sp : Int} (hx : ws[i]? = some saw) (hsp : IntKind.u64.wrap (saw - 1) = sp) (hy : U64 sp) (hp : Row w bp 97 (pendB bq (i : Int) nx saw hand ps sum ans)) :
    Calls Tryd.prog 63 #[.pointer (some ⟨bp, 0, none⟩)] w (SteppedB w bk bw bp (ws.set i sp) (pendB bq (i : Int) .nilFunc saw hand ps sum 1) (.agg #[.int .u8 5, .int .i64 (i : Int), .int .u64 saw, .int .u64 sp, .bool true])) := by
  obtain ⟨c0, c1, c2, c3, c4, c5, c6, c7⟩ := pend_cells hp
  have hbp := hp.lt
  have hbq := h.head.lt
  have hbw := h.words.row.lt
  have kb := h.hb
  have HNB : Hid (bp ∉ [bw]) := Lib.hid (by simpa using hp.ne h.words.row (by decide))
  have HNT : Hid (bq ∉ [bw]) := Lib.hid (by simpa using h.ne)
  have HQP : Hid (¬ bq = bp) := Lib.hid (h.head.ne hp (by decide))
  have HX := Lib.hid hx
  have hsub : IntKind.u64.wrap (saw - 1) = sp := hsp
  have HY := Lib.hid hy
  have HH := Lib.hid h.head
  have HQ := Lib.hid h
  have H := Lib.hid h.words
  have HP := Lib.hid hp
  have l1 : bp < w.heap.size + 1 := by omega
  have l2 : bq < w.heap.size + 1 := by omega
  have n1 : ¬ w.heap.size = bp := by omega
  have n2 : ¬ bp = w.heap.size := by omega
  have n3 : ¬ w.heap.size + 1 = bp := by omega
  have n4 : ¬ bp = w.heap.size + 1 := by omega
  have n5 : ¬ w.heap.size + 1 = bq := by omega
  have n6 : ¬ bq = w.heap.size + 1 := by omega
  clear h hp hx hsp hy
  go_enter Tryd.func63, Tryd.ntmps63
  go_upto_region 1 with fail
  go_cut [3] (fun s9 wx => MidAv w w.heap.size bk bw (ws.set i sp) [.int .u8 5, .int .i64 (i : Int), .int .u64 saw, .int .u64 sp, .bool true] s9 wx)
  case first =>
    have kp : ((w.alloc (.cells #[.int .u8 0, .int .i64 0, .int .u64 0, .int .u64 0, .bool false] 39)).alloc (.cells #[.int .u8 0, .int .i64 0, .int .u64 0, .int .u64 0, .bool false] 39)).drew.cell? ⟨bp, 0, none⟩ = some (.pointer (some ⟨bq, 0, none⟩)) := (Row.drew ((HP.out.alloc _).alloc _)).cell 0
    go_region_held3 (fun w' => w'.cell? ⟨bp, 1, none⟩ = some (.int .i64 (i : Int)) ∧ w'.cell? ⟨bp, 3, none⟩ = some (.int .u64 saw) ∧ w'.cell? ⟨bp, 4, none⟩ = some (.int .u64 hand))
      (first | (with_reducible exact ⟨q1, q3, q4⟩) | (simp [World.cell?_alloc_some, World.cell?_setCell_far, n3, q1, q3, q4]; done) | (simp [World.cell?_alloc_some, c1, c3, c4]; done) | go_keep)
      (first
      | (go_at_call 62; (with_reducible refine (bact_any (HQ.out.alloc _).drew (HP.out.alloc _).drew (fun w0 hw0 => do_hit hw0 HX.out HY.out)).mono ?_); rintro e w2 ⟨rfl, hW2, hP2⟩; obtain ⟨q0, q1, q2, q3, q4, q5, q6, q7⟩ := pend_cells (Row.part (Row.drew (HP.out.alloc _)) hP2 HNB.out); have HMA := Lib.hid (mida_a rfl H.out hW2 hP2 (did := [.int .u8 5, .int .i64 (i : Int), .int .u64 saw, .int .u64 sp, .bool true])); clear hW2 hP2)
      | (go_at_call 62; (with_reducible refine (bact_any ((HQ.out.alloc _).alloc _).drew ((HP.out.alloc _).alloc _).drew (fun w0 hw0 => do_hit hw0 HX.out HY.out)).mono ?_); rintro e w2 ⟨rfl, hW2, hP2⟩; obtain ⟨q0, q1, q2, q3, q4, q5, q6, q7⟩ := pend_cells (Row.part (Row.drew ((HP.out.alloc _).alloc _)) hP2 HNB.out); have HMB := Lib.hid (mida_b rfl H.out hW2 hP2 (k := 5) (c := (i : Int)) (saw := saw) (put := sp) (ok := true)); have hr3 : Row w2 (w.heap.size + 1) 39 noDid := nodid_at rfl rfl hbw hP2; unfold noDid at hr3; obtain ⟨b0, b1, b2, b3, b4⟩ := hr3.five; have hf3 := hr3.free; have hlt3 := hr3.lt; clear hr3 hW2 hP2))
    all_goals
      go_wp2_with fail
      go_meet
      first | exact ⟨_, rfl, HMA.out⟩ | exact ⟨_, rfl, HMB.out⟩ | exact ⟨_, rfl, HMA.out.drew⟩ | exact ⟨_, rfl, HMB.out.drew⟩
  case rest =>
    obtain ⟨g, rfl, hM⟩ := hcut
    clear c0 c1 c2 c3 c4 c5 c6 c7
    have HM := Lib.hid hM
    have hpx := HP.out.part hM.part HNB.out
    have HPX := Lib.hid hpx
    obtain ⟨p0, p1, p2, p3, p4, p5, p6, p7⟩ := pend_cells hpx
    have pf := hpx.free
    have plt := hpx.lt
    obtain ⟨b0, b1, b2, b3, b4⟩ := hM.did.five
    have blt := hM.did.lt
    have hres := hM.res
    unfold noDid at hres
    obtain ⟨d0, d1, d2, d3, d4⟩ := hres.five
    have df := hres.free
    have dlt := hres.lt
    have hg := hM.lo
    have e1 : ¬ bp = g := hpx.ne hM.did (by decide)
    have e2 : ¬ g = bp := fun e => e1 e.symm
    have e3 : ¬ g = w.heap.size := by omega
    have e4 : ¬ w.heap.size = g := by omega
    clear hM hres hpx
    go_wp2_with (go_at_call 66; (with_reducible refine (bend_any (y := 1) HPX.out).mono ?_); rintro e w3 ⟨rfl, hr3, hP3⟩; obtain ⟨b0, b1, b2, b3, b4⟩ := (HM.out.did.part (Part.trans (S' := [bp]) (Part.refl [bp] _) hP3 (fun _ _ hm => hm)) (by simpa using e2)).five; have hres3 := HM.out.res.part (Part.trans (S' := [bp]) (Part.refl [bp] _) hP3 (fun _ _ hm => hm)) (by simpa using n1); unfold noDid at hres3; obtain ⟨d0, d1, d2, d3, d4⟩ := hres3.five; have df := hres3.free; have dlt := hres3.lt; have HR3 := Lib.hid hr3; have HE3 := Lib.hid (Part.trans (S' := [bp]) (Part.refl [bp] _) hP3 (fun _ _ hm => hm)); clear hres3 hr3 hP3)
    refine bodyPost_ret (v := .agg #[.int .u8 5, .int .i64 (i : Int), .int .u64 saw, .int .u64 sp, .bool true]) (by simp [results, Tryd.results63, go_sem, d0, d1, d2, d3, d4]) rfl ⟨rfl, ?_⟩
    refine mid_fin HM.out H.out HP.out ?_ ?_
    · repeat (refine Part.set ?_ (by simp) _)
      exact HE3.out.mono (fun q _ hm => by simp at hm ⊢; exact Or.inl hm)
    · repeat (first | (with_reducible exact HR3.out) | (with_reducible refine Row.far ?_ n1 _))
theorem bspend_miss (h : QuoM w bq bk bw ba ws) {i : Nat} {sp : Int} (hx : ws[i]? = some x) (hsp : IntKind.u64.wrap (saw - 1) = sp) (hne : ¬ x = saw) (hp : Row w bp 97 (pendB bq (i : Int) nx saw hand ps sum ans)) :
    Calls Tryd.prog 63 #[.pointer (some ⟨bp, 0, none⟩)] w (SteppedB w bk bw bp ws (pendB bq (i : Int) (fnV 36) saw hand ps sum ans) (.agg #[.int .u8 5, .int .i64 (i : Int), .int .u64 x, .int .u64 x, .bool false])) := by
  obtain ⟨c0, c1, c2, c3, c4, c5, c6, c7⟩ := pend_cells hp
  have hbp := hp.lt
  have hbq := h.head.lt
  have hbw := h.words.row.lt
  have kb := h.hb
  have HNB : Hid (bp ∉ [bw]) := Lib.hid (by simpa using hp.ne h.words.row (by decide))
  have HNT : Hid (bq ∉ [bw]) := Lib.hid (by simpa using h.ne)
  have HQP : Hid (¬ bq = bp) := Lib.hid (h.head.ne hp (by decide))
  have HX := Lib.hid hx
  have hsub : IntKind.u64.wrap (saw - 1) = sp := hsp
  have HY := Lib.hid hne
  have HH := Lib.hid h.head
  have HQ := Lib.hid h
  have H := Lib.hid h.words
  have HP := Lib.hid hp
  have l1 : bp < w.heap.size + 1 := by omega
  have l2 : bq < w.heap.size + 1 := by omega
  have n1 : ¬ w.heap.size = bp := by omega
  have n2 : ¬ bp = w.heap.size := by omega
  have n3 : ¬ w.heap.size + 1 = bp := by omega
  have n4 : ¬ bp = w.heap.size + 1 := by omega
  have n5 : ¬ w.heap.size + 1 = bq := by omega
  have n6 : ¬ bq = w.heap.size + 1 := by omega
  clear h hp hx hsp hne
  go_enter Tryd.func63, Tryd.ntmps63
  go_upto_region 1 with fail
  go_cut [3] (fun s9 wx => MidAv w w.heap.size bk bw ws [.int .u8 5, .int .i64 (i : Int), .int .u64 x, .int .u64 x, .bool false] s9 wx)
  case first =>
    have kp : ((w.alloc (.cells #[.int .u8 0, .int .i64 0, .int .u64 0, .int .u64 0, .bool false] 39)).alloc (.cells #[.int .u8 0, .int .i64 0, .int .u64 0, .int .u64 0, .bool false] 39)).drew.cell? ⟨bp, 0, none⟩ = some (.pointer (some ⟨bq, 0, none⟩)) := (Row.drew ((HP.out.alloc _).alloc _)).cell 0
    go_region_held3 (fun w' => w'.cell? ⟨bp, 1, none⟩ = some (.int .i64 (i : Int)) ∧ w'.cell? ⟨bp, 3, none⟩ = some (.int .u64 saw) ∧ w'.cell? ⟨bp, 4, none⟩ = some (.int .u64 hand))
      (first | (with_reducible exact ⟨q1, q3, q4⟩) | (simp [World.cell?_alloc_some, World.cell?_setCell_far, n3, q1, q3, q4]; done) | (simp [World.cell?_alloc_some, c1, c3, c4]; done) | go_keep)
      (first
      | (go_at_call 62; (with_reducible refine (bact_any (HQ.out.alloc _).drew (HP.out.alloc _).drew (fun w0 hw0 => do_miss hw0 HX.out HY.out)).mono ?_); rintro e w2 ⟨rfl, hW2, hP2⟩; obtain ⟨q0, q1, q2, q3, q4, q5, q6, q7⟩ := pend_cells (Row.part (Row.drew (HP.out.alloc _)) hP2 HNB.out); have HMA := Lib.hid (mida_a rfl H.out hW2 hP2 (did := [.int .u8 5, .int .i64 (i : Int), .int .u64 x, .int .u64 x, .bool false])); clear hW2 hP2)
      | (go_at_call 62; (with_reducible refine (bact_any ((HQ.out.alloc _).alloc _).drew ((HP.out.alloc _).alloc _).drew (fun w0 hw0 => do_miss hw0 HX.out HY.out)).mono ?_); rintro e w2 ⟨rfl, hW2, hP2⟩; obtain ⟨q0, q1, q2, q3, q4, q5, q6, q7⟩ := pend_cells (Row.part (Row.drew ((HP.out.alloc _).alloc _)) hP2 HNB.out); have HMB := Lib.hid (mida_b rfl H.out hW2 hP2 (k := 5) (c := (i : Int)) (saw := x) (put := x) (ok := false)); have hr3 : Row w2 (w.heap.size + 1) 39 noDid := nodid_at rfl rfl hbw hP2; unfold noDid at hr3; obtain ⟨b0, b1, b2, b3, b4⟩ := hr3.five; have hf3 := hr3.free; have hlt3 := hr3.lt; clear hr3 hW2 hP2))
    all_goals
      go_wp2_with fail
      go_meet
      first | exact ⟨_, rfl, HMA.out⟩ | exact ⟨_, rfl, HMB.out⟩ | exact ⟨_, rfl, HMA.out.drew⟩ | exact ⟨_, rfl, HMB.out.drew⟩
  case rest =>
    obtain ⟨g, rfl, hM⟩ := hcut
    clear c0 c1 c2 c3 c4 c5 c6 c7
    have HM := Lib.hid hM
    have hpx := HP.out.part hM.part HNB.out
    have HPX := Lib.hid hpx
    obtain ⟨p0, p1, p2, p3, p4, p5, p6, p7⟩ := pend_cells hpx
    have pf := hpx.free
    have plt := hpx.lt
    obtain ⟨b0, b1, b2, b3, b4⟩ := hM.did.five
    have blt := hM.did.lt
    have hres := hM.res
    unfold noDid at hres
    obtain ⟨d0, d1, d2, d3, d4⟩ := hres.five
    have df := hres.free
    have dlt := hres.lt
    have hg := hM.lo
    have e1 : ¬ bp = g := hpx.ne hM.did (by decide)
    have e2 : ¬ g = bp := fun e => e1 e.symm
    have e3 : ¬ g = w.heap.size := by omega
    have e4 : ¬ w.heap.size = g := by omega
    clear hM hres hpx
    go_wp2
    refine bodyPost_ret (v := .agg #[.int .u8 5, .int .i64 (i : Int), .int .u64 x, .int .u64 x, .bool false]) (by simp [results, Tryd.results63, go_sem, d0, d1, d2, d3, d4]) rfl ⟨rfl, ?_⟩
    refine mid_fin HM.out H.out HP.out ?_ (Row.of_eq (l := (pendB bq (i : Int) nx saw hand ps sum ans).set 2 (.func (.func 36) #[] #[])) ?_ (by simp [pendB, fnV]))
    · repeat (refine Part.set ?_ (by simp) _)
      exact Part.refl _ _
    · repeat (first | (with_reducible exact HPX.out) | (with_reducible refine Row.far ?_ n1 _) | (with_reducible refine Row.set ?_ _ _))
end
end Go.Proofs.YteoekkhgpdhnhaaDoor
