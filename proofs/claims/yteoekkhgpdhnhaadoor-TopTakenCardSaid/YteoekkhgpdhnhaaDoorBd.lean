/- THE WALKS of package quota: borrow, gather. -/
import Derived.Test.YteoekkhgpdhnhaaDoorBc
namespace Go.Proofs.YteoekkhgpdhnhaaDoor
open Go Go.RowKit
set_option maxHeartbeats 3200000
set_option maxRecDepth 100000
section
variable {w w2 : World} {bq bk bw bp : Nat} {ba : Int} {ws ws' : List Int} {own saw hand ps sum ans x : Int} {nx : Value}
theorem quiet_behind {P : Program} {f : FuncId} {args : Array Value} {a n : Nat} {v : Value} (h : Calls P f args (w.drewN (a + n)) fun e w' => e = .returned v ∧ w.drewN (a + n) = w') :
    Calls P f args (w.drewN (a + n)) fun e w'' => e = .returned v ∧ ∃ m, w'' = w.drewN (a + m) := h.mono fun _ _ h' => ⟨h'.1, n, h'.2.symm⟩
theorem Part.undrewA {S : List Nat} {o : Obj} {n : Nat} (h : Part S ((w.alloc o).drewN n) w2) : Part S (w.alloc o).drew w2 := ⟨h.os, h.tape, h.output, h.size, h.block⟩
theorem Part.undrewB {S : List Nat} {o o' : Obj} {n : Nat} (h : Part S (((w.alloc o).drewN n).alloc o') w2) : Part S ((w.alloc o).alloc o').drew w2 := ⟨h.os, h.tape, h.output, h.size, h.block⟩
theorem bborrow_miss (h : QuoM w bq bk bw ba ws) {lent rest : Int} (hm : min ba saw = lent) (hsub : IntKind.u64.wrap (saw - lent) = rest) (hx : ws[0]? = some x) (hne : ¬ x = saw) (hp : Row w bp 97 (pendB bq own nx saw hand ps sum ans)) :
    Calls Tryd.prog 88 #[.pointer (some ⟨bp, 0, none⟩)] w (SteppedB w bk bw bp ws (pendB bq own (fnV 64) saw hand ps sum ans) (.agg #[.int .u8 5, .int .i64 0, .int .u64 x, .int .u64 x, .bool false])) := by
  obtain ⟨c0, c1, c2, c3, c4, c5, c6, c7⟩ := pend_cells hp
  have hbp := hp.lt
  have hbq := h.head.lt
  have hbw := h.words.row.lt
  have kb := h.hb
  have HNB : Hid (bp ∉ [bw]) := Lib.hid (by simpa using hp.ne h.words.row (by decide))
  have HX := Lib.hid hx
  have HY := Lib.hid hne
  have HQ := Lib.hid h
  have H := Lib.hid h.words
  have HP := Lib.hid hp
  have l1 : bp < w.heap.size + 1 := by omega
  have l2 : bq < w.heap.size + 1 := by omega
  have n1 : ¬ w.heap.size = bp := by omega
  have n2 : ¬ bp = w.heap.size := by omega
  have n3 : ¬ w.heap.size + 1 = bp := by omega
  have n4 : ¬ bp = w.heap.size + 1 := by omega
  clear h hp hx hne
  go_enter Tryd.func88, Tryd.ntmps88
  go_upto_region 1 with fail
  go_cut [3] (fun s3 wx => s3 = .int .u64 lent ∧ ∃ n, wx = (w.alloc (.cells #[.int .u8 0, .int .i64 0, .int .u64 0, .int .u64 0, .bool false] 39)).drewN n)
  case first =>
    go_region
    all_goals
      go_wp2_with fail
      go_meet
      exact ⟨by simp [hm], 1, rfl⟩
  case rest =>
    obtain ⟨rfl, nn, rfl⟩ := hcut
    go_upto_region 2 with fail
    go_cut [4] (fun s9 wx => MidAv w w.heap.size bk bw ws [.int .u8 5, .int .i64 0, .int .u64 x, .int .u64 x, .bool false] s9 wx)
    case first =>
      go_region_held3 (fun w' => w'.cell? ⟨bp, 3, none⟩ = some (.int .u64 saw))
        (first | (with_reducible exact q3) | (simp [World.cell?_alloc_some, World.cell?_setCell_far, n3, q3]; done) | (simp [World.cell?_alloc_some, c3]; done) | go_keep)
        (first
        | (go_at_call 62; (with_reducible refine (bact_any ((HQ.out.alloc _).drewN _) (Row.drewN (HP.out.alloc _) _) (fun w0 hw0 => bdo_miss0 hw0 HX.out HY.out)).mono ?_); rintro e w2 ⟨rfl, hW2, hP2⟩; obtain ⟨q0, q1, q2, q3, q4, q5, q6, q7⟩ := pend_cells (Row.part (Row.drewN (HP.out.alloc _) _) hP2 HNB.out); have HMA := Lib.hid (mida_a rfl H.out hW2 hP2.undrewA (did := [.int .u8 5, .int .i64 0, .int .u64 x, .int .u64 x, .bool false])); clear hW2 hP2)
        | (go_at_call 62; (with_reducible refine (bact_any (((HQ.out.alloc _).drewN _).alloc _) (Row.alloc (Row.drewN (HP.out.alloc _) _) _) (fun w0 hw0 => bdo_miss0 hw0 HX.out HY.out)).mono ?_); rintro e w2 ⟨rfl, hW2, hP2⟩; obtain ⟨q0, q1, q2, q3, q4, q5, q6, q7⟩ := pend_cells (Row.part (Row.alloc (Row.drewN (HP.out.alloc _) _) _) hP2 HNB.out); have HMB := Lib.hid (mida_b rfl H.out hW2 hP2.undrewB (k := 5) (c := 0) (saw := x) (put := x) (ok := false)); have hr3 : Row w2 (w.heap.size + 1) 39 noDid := nodid_at rfl rfl hbw hP2.undrewB; unfold noDid at hr3; obtain ⟨b0, b1, b2, b3, b4⟩ := hr3.five; have hf3 := hr3.free; have hlt3 := hr3.lt; clear hr3 hW2 hP2))
      all_goals
        go_wp2_with fail
        go_meet
        first | exact ⟨_, rfl, HMA.out⟩ | exact ⟨_, rfl, HMB.out⟩ | exact ⟨_, rfl, HMA.out.drew⟩ | exact ⟨_, rfl, HMB.out.drew⟩
    case rest =>
      obtain ⟨g, rfl, hM⟩ := hcut
      clear c0 c1 c2 c3 c4 c5 c6 c7
      have HM := Lib.hid hM
      have hpx := HP.out.part hM.part HNB.out
      have HPX := Lib.hid hpx
      obtain ⟨p0, p1, p2, p3, p4, p5, p6, p7⟩ := pend_cells hpx
      have pf := hpx.free
      have plt := hpx.lt
      obtain ⟨b0, b1, b2, b3, b4⟩ := hM.did.five
      have blt := hM.did.lt
      have hres := hM.res
      unfold noDid at hres
      obtain ⟨d0, d1, d2, d3, d4⟩ := hres.five
      have df := hres.free
      have dlt := hres.lt
      have hg := hM.lo
      have e1 : ¬ bp = g := hpx.ne hM.did (by decide)
      have e2 : ¬ g = bp := fun e => e1 e.symm
      have e3 : ¬ g = w.heap.size := by omega
      have e4 : ¬ w.heap.size = g := by omega
      clear hM hres hpx
      go_wp2
      refine bodyPost_ret (v := .agg #[.int .u8 5, .int .i64 0, .int .u64 x, .int .u64 x, .bool false]) (by simp [results, Tryd.results88, go_sem, d0, d1, d2, d3, d4]) rfl ⟨rfl, ?_⟩
      refine mid_fin HM.out H.out HP.out ?_ (Row.of_eq (l := (pendB bq own nx saw hand ps sum ans).set 2 (.func (.func 64) #[] #[])) ?_ (by simp [pendB, fnV]))
      · repeat (refine Part.set ?_ (by simp) _)
        exact Part.refl _ _
      · repeat (first | (with_reducible exact HPX.out) | (with_reducible refine Row.far ?_ n1 _) | (with_reducible refine Row.set ?_ _ _))
theorem bborrow_one (h : QuoM w bq bk bw ba ws) {lent rest : Int} (hm : min ba saw = lent) (hsub : IntKind.u64.wrap (saw - lent) = rest) (hx : ws[0]? = some saw) (hy : U64 rest) (h1 : (lent == 1) = true) (hp : Row w bp 97 (pendB bq own nx saw hand ps sum ans)) :
    Calls Tryd.prog 88 #[.pointer (some ⟨bp, 0, none⟩)] w (SteppedB w bk bw bp (ws.set 0 rest) (pendB bq own .nilFunc saw hand ps sum 1) (.agg #[.int .u8 5, .int .i64 0, .int .u64 saw, .int .u64 rest, .bool true])) := by
  obtain ⟨c0, c1, c2, c3, c4, c5, c6, c7⟩ := pend_cells hp
  have hbp := hp.lt
  have hbq := h.head.lt
  have hbw := h.words.row.lt
  have kb := h.hb
  have HNB : Hid (bp ∉ [bw]) := Lib.hid (by simpa using hp.ne h.words.row (by decide))
  have HX := Lib.hid hx
  have HY := Lib.hid hy
  have HQ := Lib.hid h
  have H := Lib.hid h.words
  have HP := Lib.hid hp
  have l1 : bp < w.heap.size + 1 := by omega
  have l2 : bq < w.heap.size + 1 := by omega
  have n1 : ¬ w.heap.size = bp := by omega
  have n2 : ¬ bp = w.heap.size := by omega
  have n3 : ¬ w.heap.size + 1 = bp := by omega
  have n4 : ¬ bp = w.heap.size + 1 := by omega
  clear h hp hx hy
  go_enter Tryd.func88, Tryd.ntmps88
  go_upto_region 1 with fail
  go_cut [3] (fun s3 wx => s3 = .int .u64 lent ∧ ∃ n, wx = (w.alloc (.cells #[.int .u8 0, .int .i64 0, .int .u64 0, .int .u64 0, .bool false] 39)).drewN n)
  case first =>
    go_region
    all_goals
      go_wp2_with fail
      go_meet
      exact ⟨by simp [hm], 1, rfl⟩
  case rest =>
    obtain ⟨rfl, nn, rfl⟩ := hcut
    go_upto_region 2 with fail
    go_cut [4] (fun s9 wx => MidAv w w.heap.size bk bw (ws.set 0 rest) [.int .u8 5, .int .i64 0, .int .u64 saw, .int .u64 rest, .bool true] s9 wx)
    case first =>
      go_region_held3 (fun w' => w'.cell? ⟨bp, 3, none⟩ = some (.int .u64 saw))
        (first | (with_reducible exact q3) | (simp [World.cell?_alloc_some, World.cell?_setCell_far, n3, q3]; done) | (simp [World.cell?_alloc_some, c3]; done) | go_keep)
        (first
        | (go_at_call 62; (with_reducible refine (bact_any ((HQ.out.alloc _).drewN _) (Row.drewN (HP.out.alloc _) _) (fun w0 hw0 => bdo_hit0 hw0 HX.out HY.out)).mono ?_); rintro e w2 ⟨rfl, hW2, hP2⟩; obtain ⟨q0, q1, q2, q3, q4, q5, q6, q7⟩ := pend_cells (Row.part (Row.drewN (HP.out.alloc _) _) hP2 HNB.out); have HMA := Lib.hid (mida_a rfl H.out hW2 hP2.undrewA (did := [.int .u8 5, .int .i64 0, .int .u64 saw, .int .u64 rest, .bool true])); clear hW2 hP2)
        | (go_at_call 62; (with_reducible refine (bact_any (((HQ.out.alloc _).drewN _).alloc _) (Row.alloc (Row.drewN (HP.out.alloc _) _) _) (fun w0 hw0 => bdo_hit0 hw0 HX.out HY.out)).mono ?_); rintro e w2 ⟨rfl, hW2, hP2⟩; obtain ⟨q0, q1, q2, q3, q4, q5, q6, q7⟩ := pend_cells (Row.part (Row.alloc (Row.drewN (HP.out.alloc _) _) _) hP2 HNB.out); have HMB := Lib.hid (mida_b rfl H.out hW2 hP2.undrewB (k := 5) (c := 0) (saw := saw) (put := rest) (ok := true)); have hr3 : Row w2 (w.heap.size + 1) 39 noDid := nodid_at rfl rfl hbw hP2.undrewB; unfold noDid at hr3; obtain ⟨b0, b1, b2, b3, b4⟩ := hr3.five; have hf3 := hr3.free; have hlt3 := hr3.lt; clear hr3 hW2 hP2))
      all_goals
        go_wp2_with fail
        go_meet
        first | exact ⟨_, rfl, HMA.out⟩ | exact ⟨_, rfl, HMB.out⟩ | exact ⟨_, rfl, HMA.out.drew⟩ | exact ⟨_, rfl, HMB.out.drew⟩
    case rest =>
      obtain ⟨g, rfl, hM⟩ := hcut
      clear c0 c1 c2 c3 c4 c5 c6 c7
      have HM := Lib.hid hM
      have hpx := HP.out.part hM.part HNB.out
      have HPX := Lib.hid hpx
      obtain ⟨p0, p1, p2, p3, p4, p5, p6, p7⟩ := pend_cells hpx
      have pf := hpx.free
      have plt := hpx.lt
      obtain ⟨b0, b1, b2, b3, b4⟩ := hM.did.five
      have blt := hM.did.lt
      have hres := hM.res
      unfold noDid at hres
      obtain ⟨d0, d1, d2, d3, d4⟩ := hres.five
      have df := hres.free
      have dlt := hres.lt
      have hg := hM.lo
      have e1 : ¬ bp = g := hpx.ne hM.did (by decide)
      have e2 : ¬ g = bp := fun e => e1 e.symm
      have e3 : ¬ g = w.heap.size := by omega
      have e4 : ¬ w.heap.size = g := by omega
      clear hM hres hpx
      go_wp2_with (go_at_call 66; (with_reducible refine (bend_any (y := 1) HPX.out).mono ?_); rintro e w3 ⟨rfl, hr3, hP3⟩; obtain ⟨b0, b1, b2, b3, b4⟩ := (HM.out.did.part hP3 (by simpa using e2)).five; have hres3 := HM.out.res.part hP3 (by simpa using n1); unfold noDid at hres3; obtain ⟨d0, d1, d2, d3, d4⟩ := hres3.five; have df := hres3.free; have dlt := hres3.lt; have HR3 := Lib.hid hr3; have HE3 := Lib.hid hP3; clear hres3 hr3 hP3)
      refine bodyPost_ret (v := .agg #[.int .u8 5, .int .i64 0, .int .u64 saw, .int .u64 rest, .bool true]) (by simp [results, Tryd.results88, go_sem, d0, d1, d2, d3, d4]) rfl ⟨rfl, ?_⟩
      refine mid_fin HM.out H.out HP.out ?_ ?_
      · repeat (refine Part.set ?_ (by simp) _)
        exact HE3.out.mono (fun q _ hm => by simp at hm ⊢; exact Or.inl hm)
      · repeat (first | (with_reducible exact HR3.out) | (with_reducible refine Row.far ?_ n1 _))
theorem bborrow_more (h : QuoM w bq bk bw ba ws) {lent rest : Int} (hm : min ba saw = lent) (hsub : IntKind.u64.wrap (saw - lent) = rest) {more : Int} (hx : ws[0]? = some saw) (hy : U64 rest) (h1 : (lent == 1) = false) (hmo : IntKind.u64.wrap (lent - 1) = more) (hp : Row w bp 97 (pendB bq own nx saw hand ps sum ans)) :
    Calls Tryd.prog 88 #[.pointer (some ⟨bp, 0, none⟩)] w (SteppedB w bk bw bp (ws.set 0 rest) (pendB bq own (fnV 105) saw more ps sum ans) (.agg #[.int .u8 5, .int .i64 0, .int .u64 saw, .int .u64 rest, .bool true])) := by
  obtain ⟨c0, c1, c2, c3, c4, c5, c6, c7⟩ := pend_cells hp
  have hbp := hp.lt
  have hbq := h.head.lt
  have hbw := h.words.row.lt
  have kb := h.hb
  have HNB : Hid (bp ∉ [bw]) := Lib.hid (by simpa using hp.ne h.words.row (by decide))
  have HX := Lib.hid hx
  have HY := Lib.hid hy
  have HQ := Lib.hid h
  have H := Lib.hid h.words
  have HP := Lib.hid hp
  have l1 : bp < w.heap.size + 1 := by omega
  have l2 : bq < w.heap.size + 1 := by omega
  have n1 : ¬ w.heap.size = bp := by omega
  have n2 : ¬ bp = w.heap.size := by omega
  have n3 : ¬ w.heap.size + 1 = bp := by omega
  have n4 : ¬ bp = w.heap.size + 1 := by omega
  clear h hp hx hy
  go_enter Tryd.func88, Tryd.ntmps88
  go_upto_region 1 with fail
  go_cut [3] (fun s3 wx => s3 = .int .u64 lent ∧ ∃ n, wx = (w.alloc (.cells #[.int .u8 0, .int .i64 0, .int .u64 0, .int .u64 0, .bool false] 39)).drewN n)
  case first =>
    go_region
    all_goals
      go_wp2_with fail
      go_meet
      exact ⟨by simp [hm], 1, rfl⟩
  case rest =>
    obtain ⟨rfl, nn, rfl⟩ := hcut
    go_upto_region 2 with fail
    go_cut [4] (fun s9 wx => MidAv w w.heap.size bk bw (ws.set 0 rest) [.int .u8 5, .int .i64 0, .int .u64 saw, .int .u64 rest, .bool true] s9 wx)
    case first =>
      go_region_held3 (fun w' => w'.cell? ⟨bp, 3, none⟩ = some (.int .u64 saw))
        (first | (with_reducible exact q3) | (simp [World.cell?_alloc_some, World.cell?_setCell_far, n3, q3]; done) | (simp [World.cell?_alloc_some, c3]; done) | go_keep)
        (first
        | (go_at_call 62; (with_reducible refine (bact_any ((HQ.out.alloc _).drewN _) (Row.drewN (HP.out.alloc _) _) (fun w0 hw0 => bdo_hit0 hw0 HX.out HY.out)).mono ?_); rintro e w2 ⟨rfl, hW2, hP2⟩; obtain ⟨q0, q1, q2, q3, q4, q5, q6, q7⟩ := pend_cells (Row.part (Row.drewN (HP.out.alloc _) _) hP2 HNB.out); have HMA := Lib.hid (mida_a rfl H.out hW2 hP2.undrewA (did := [.int .u8 5, .int .i64 0, .int .u64 saw, .int .u64 rest, .bool true])); clear hW2 hP2)
        | (go_at_call 62; (with_reducible refine (bact_any (((HQ.out.alloc _).drewN _).alloc _) (Row.alloc (Row.drewN (HP.out.alloc _) _) _) (fun w0 hw0 => bdo_hit0 hw0 HX.out HY.out)).mono ?_); rintro e w2 ⟨rfl, hW2, hP2⟩; obtain ⟨q0, q1, q2, q3, q4, q5, q6, q7⟩ := pend_cells (Row.part (Row.alloc (Row.drewN (HP.out.alloc _) _) _) hP2 HNB.out); have HMB := Lib.hid (mida_b rfl H.out hW2 hP2.undrewB (k := 5) (c := 0) (saw := saw) (put := rest) (ok := true)); have hr3 : Row w2 (w.heap.size + 1) 39 noDid := nodid_at rfl rfl hbw hP2.undrewB; unfold noDid at hr3; obtain ⟨b0, b1, b2, b3, b4⟩ := hr3.five; have hf3 := hr3.free; have hlt3 := hr3.lt; clear hr3 hW2 hP2))
      all_goals
        go_wp2_with fail
        go_meet
        first | exact ⟨_, rfl, HMA.out⟩ | exact ⟨_, rfl, HMB.out⟩ | exact ⟨_, rfl, HMA.out.drew⟩ | exact ⟨_, rfl, HMB.out.drew⟩
    case rest =>
      obtain ⟨g, rfl, hM⟩ := hcut
      clear c0 c1 c2 c3 c4 c5 c6 c7
      have HM := Lib.hid hM
      have hpx := HP.out.part hM.part HNB.out
      have HPX := Lib.hid hpx
      obtain ⟨p0, p1, p2, p3, p4, p5, p6, p7⟩ := pend_cells hpx
      have pf := hpx.free
      have plt := hpx.lt
      obtain ⟨b0, b1, b2, b3, b4⟩ := hM.did.five
      have blt := hM.did.lt
      have hres := hM.res
      unfold noDid at hres
      obtain ⟨d0, d1, d2, d3, d4⟩ := hres.five
      have df := hres.free
      have dlt := hres.lt
      have hg := hM.lo
      have e1 : ¬ bp = g := hpx.ne hM.did (by decide)
      have e2 : ¬ g = bp := fun e => e1 e.symm
      have e3 : ¬ g = w.heap.size := by omega
      have e4 : ¬ w.heap.size = g := by omega
      clear hM hres hpx
      go_wp2
      refine bodyPost_ret (v := .agg #[.int .u8 5, .int .i64 0, .int .u64 saw, .int .u64 rest, .bool true]) (by simp [results, Tryd.results88, go_sem, d0, d1, d2, d3, d4]) rfl ⟨rfl, ?_⟩
      refine mid_fin HM.out H.out HP.out ?_ (Row.of_eq (l := ((pendB bq own nx saw hand ps sum ans).set 4 (.int .u64 more)).set 2 (.func (.func 105) #[] #[])) ?_ (by simp [pendB, fnV]))
      · repeat (refine Part.set ?_ (by simp) _)
        exact Part.refl _ _
      · repeat (first | (with_reducible exact HPX.out) | (with_reducible refine Row.far ?_ n1 _) | (with_reducible refine Row.set ?_ _ _))
end
end Go.Proofs.YteoekkhgpdhnhaaDoor
