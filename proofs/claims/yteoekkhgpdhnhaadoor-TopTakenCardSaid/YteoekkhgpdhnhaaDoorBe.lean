/- THE WALKS of package quota: gather. -/
import Derived.Test.YteoekkhgpdhnhaaDoorBd
namespace Go.Proofs.YteoekkhgpdhnhaaDoor
open Go Go.RowKit
set_option maxHeartbeats 3200000
set_option maxRecDepth 100000
section
variable {w : World} {bq bk bw bp : Nat} {ba : Int} {ws : List Int} {own saw hand s ans x : Int} {nx : Value}
theorem bgather_more (h : QuoM w bq bk bw ba ws) {c : Nat} (hx : ws[c]? = some x) (hn : c + 1 < ws.length) (hp : Row w bp 97 (pendB bq own nx saw hand (c : Int) s ans)) :
    Calls Tryd.prog 38 #[.pointer (some ⟨bp, 0, none⟩)] w (SteppedB w bk bw bp ws (pendB bq own nx saw hand ((c + 1 : Nat) : Int) (IntKind.u64.wrap (s + x)) ans) (.agg #[.int .u8 1, .int .i64 (c : Int), .int .u64 x, .int .u64 x, .bool true])) := by
  obtain ⟨c0, c1, c2, c3, c4, c5, c6, c7⟩ := pend_cells hp
  have hbp := hp.lt
  have hbq := h.head.lt
  have hbw := h.words.row.lt
  have HNB : Hid (bp ∉ [bw]) := Lib.hid (by simpa using hp.ne h.words.row (by decide))
  have hcb : c ≤ 1000000 := by have := h.top; have := lt_of_get hx; omega
  have hwc : IntKind.i64.wrap ((c : Int) + 1) = ((c + 1 : Nat) : Int) := by rw [IntKind.wrap_i64]; omega
  have hq : ((c : Int) + 1 == ((ws.length : Nat) : Int)) = false := by rw [beq_eq_false_iff_ne]; omega
  have HNT : Hid (bq ∉ [bw]) := Lib.hid (by simpa using h.ne)
  have E0 := Lib.hid (h.head.ne hp (by decide))
  have HX := Lib.hid hx
  have HQ := Lib.hid h
  have H := Lib.hid h.words
  have HP := Lib.hid hp
  have n1 : ¬ w.heap.size = bp := by omega
  have n2 : ¬ bp = w.heap.size := by omega
  clear hn h hp hx
  go_enter Tryd.func38, Tryd.ntmps38
  go_upto_region 1 with fail
  go_cut [3] (fun s9 wx => MidAv w w.heap.size bk bw ws [.int .u8 1, .int .i64 (c : Int), .int .u64 x, .int .u64 x, .bool true] s9 wx)
  case first =>
    go_wp2_with (go_at_call 62; (with_reducible refine (bact_any (HQ.out.alloc _) (HP.out.alloc _) (fun w0 hw0 => do_load hw0 HX.out)).mono ?_); rintro e w2 ⟨rfl, hW2, hP2⟩; have HMA := Lib.hid (mida_a rfl H.out hW2 hP2.undrew (did := [.int .u8 1, .int .i64 (c : Int), .int .u64 x, .int .u64 x, .bool true])); clear hW2 hP2)
    go_meet
    exact ⟨_, rfl, HMA.out⟩
  case rest =>
    obtain ⟨g, rfl, hM⟩ := hcut
    clear c0 c1 c2 c3 c4 c5 c6 c7
    have HM := Lib.hid hM
    have hpx := HP.out.part hM.part HNB.out
    have HPX := Lib.hid hpx
    obtain ⟨p0, p1, p2, p3, p4, p5, p6, p7⟩ := pend_cells hpx
    have pf := hpx.free
    have plt := hpx.lt
    obtain ⟨b0, b1, b2, b3, b4⟩ := hM.did.five
    have blt := hM.did.lt
    have hres := hM.res
    unfold noDid at hres
    obtain ⟨d0, d1, d2, d3, d4⟩ := hres.five
    have df := hres.free
    have dlt := hres.lt
    have hg := hM.lo
    have e1 : ¬ bp = g := hpx.ne hM.did (by decide)
    have e2 : ¬ g = bp := fun e => e1 e.symm
    have e3 : ¬ g = w.heap.size := by omega
    have e4 : ¬ w.heap.size = g := by omega
    clear hM hres hpx
    have hqx := HQ.out.head.part HM.out.part HNT.out
    obtain ⟨k0, k1⟩ := hqx.two_cells
    have e5 : ¬ bq = bp := E0.out
    have e6 : ¬ bp = bq := fun e => e5 e.symm
    have e7 : ¬ bp = bk := fun e => (HM.out.words.head.ne HPX.out (by decide)) e.symm
    have e8 : ¬ bp = bw := fun e => (HM.out.words.row.ne HPX.out (by decide)) e.symm
    clear hqx
    go_wp2
    go_region
    all_goals go_wp2
    all_goals go_quiet ((go_at_call 67; refine quiet_behind (len_any (bw := bw) (ws := ws) ?_); (repeat (first | (with_reducible exact HM.out.words) | (with_reducible refine Words.drewN ?_ _) | (with_reducible refine Words.drew ?_) | (with_reducible refine Words.far ?_ e7 e8 _)))))
    all_goals go_wp2
    all_goals
      refine bodyPost_ret (v := .agg #[.int .u8 1, .int .i64 (c : Int), .int .u64 x, .int .u64 x, .bool true]) (by simp [results, Tryd.results38, go_sem, d0, d1, d2, d3, d4]) rfl ⟨rfl, ?_⟩
      refine mid_fin HM.out H.out HP.out ?_ (Row.of_eq (l := (((pendB bq own nx saw hand (c : Int) s ans).set 5 (.int .i64 ((c : Int) + 1))).set 6 (.int .u64 (IntKind.u64.wrap (s + x))))) ?_ (by simp [pendB, fnV]))
      · (repeat (first | (with_reducible refine Part.drewN ?_ _) | (with_reducible refine Part.drew ?_) | refine Part.set ?_ (by simp) _)); exact Part.refl _ _
      · (repeat (first | (with_reducible exact HPX.out) | (with_reducible refine Row.drewN ?_ _) | (with_reducible refine Row.drew ?_) | (with_reducible refine Row.far ?_ n1 _) | (with_reducible refine Row.set ?_ _ _)))
theorem bgather_last (h : QuoM w bq bk bw ba ws) {c : Nat} {y : Int} (hx : ws[c]? = some x) (hn : c + 1 = ws.length) (hy : IntKind.i64.wrap (IntKind.u64.wrap (s + x)) = y) (hp : Row w bp 97 (pendB bq own nx saw hand (c : Int) s ans)) :
    Calls Tryd.prog 38 #[.pointer (some ⟨bp, 0, none⟩)] w (SteppedB w bk bw bp ws (pendB bq own .nilFunc saw hand ((c + 1 : Nat) : Int) (IntKind.u64.wrap (s + x)) y) (.agg #[.int .u8 1, .int .i64 (c : Int), .int .u64 x, .int .u64 x, .bool true])) := by
  obtain ⟨c0, c1, c2, c3, c4, c5, c6, c7⟩ := pend_cells hp
  have hbp := hp.lt
  have hbq := h.head.lt
  have hbw := h.words.row.lt
  have HNB : Hid (bp ∉ [bw]) := Lib.hid (by simpa using hp.ne h.words.row (by decide))
  have hcb : c ≤ 1000000 := by have := h.top; have := lt_of_get hx; omega
  have hwc : IntKind.i64.wrap ((c : Int) + 1) = ((c + 1 : Nat) : Int) := by rw [IntKind.wrap_i64]; omega
  have hq : ((c : Int) + 1 == ((ws.length : Nat) : Int)) = true := by rw [beq_iff_eq]; omega
  have HNT : Hid (bq ∉ [bw]) := Lib.hid (by simpa using h.ne)
  have E0 := Lib.hid (h.head.ne hp (by decide))
  have HX := Lib.hid hx
  have HQ := Lib.hid h
  have H := Lib.hid h.words
  have HP := Lib.hid hp
  have n1 : ¬ w.heap.size = bp := by omega
  have n2 : ¬ bp = w.heap.size := by omega
  clear hn h hp hx
  go_enter Tryd.func38, Tryd.ntmps38
  go_upto_region 1 with fail
  go_cut [3] (fun s9 wx => MidAv w w.heap.size bk bw ws [.int .u8 1, .int .i64 (c : Int), .int .u64 x, .int .u64 x, .bool true] s9 wx)
  case first =>
    go_wp2_with (go_at_call 62; (with_reducible refine (bact_any (HQ.out.alloc _) (HP.out.alloc _) (fun w0 hw0 => do_load hw0 HX.out)).mono ?_); rintro e w2 ⟨rfl, hW2, hP2⟩; have HMA := Lib.hid (mida_a rfl H.out hW2 hP2.undrew (did := [.int .u8 1, .int .i64 (c : Int), .int .u64 x, .int .u64 x, .bool true])); clear hW2 hP2)
    go_meet
    exact ⟨_, rfl, HMA.out⟩
  case rest =>
    obtain ⟨g, rfl, hM⟩ := hcut
    clear c0 c1 c2 c3 c4 c5 c6 c7
    have HM := Lib.hid hM
    have hpx := HP.out.part hM.part HNB.out
    have HPX := Lib.hid hpx
    obtain ⟨p0, p1, p2, p3, p4, p5, p6, p7⟩ := pend_cells hpx
    have pf := hpx.free
    have plt := hpx.lt
    obtain ⟨b0, b1, b2, b3, b4⟩ := hM.did.five
    have blt := hM.did.lt
    have hres := hM.res
    unfold noDid at hres
    obtain ⟨d0, d1, d2, d3, d4⟩ := hres.five
    have df := hres.free
    have dlt := hres.lt
    have hg := hM.lo
    have e1 : ¬ bp = g := hpx.ne hM.did (by decide)
    have e2 : ¬ g = bp := fun e => e1 e.symm
    have e3 : ¬ g = w.heap.size := by omega
    have e4 : ¬ w.heap.size = g := by omega
    clear hM hres hpx
    have hqx := HQ.out.head.part HM.out.part HNT.out
    obtain ⟨k0, k1⟩ := hqx.two_cells
    have e5 : ¬ bq = bp := E0.out
    have e6 : ¬ bp = bq := fun e => e5 e.symm
    have e7 : ¬ bp = bk := fun e => (HM.out.words.head.ne HPX.out (by decide)) e.symm
    have e8 : ¬ bp = bw := fun e => (HM.out.words.row.ne HPX.out (by decide)) e.symm
    clear hqx
    go_wp2
    go_region
    all_goals go_wp2
    all_goals go_quiet ((go_at_call 67; refine quiet_behind (len_any (bw := bw) (ws := ws) ?_); (repeat (first | (with_reducible exact HM.out.words) | (with_reducible refine Words.drewN ?_ _) | (with_reducible refine Words.drew ?_) | (with_reducible refine Words.far ?_ e7 e8 _)))))
    all_goals
      go_wp2_with (go_at_call 66; (refine (bend_any (y := y) (bq := bq) (own := own) (nx := nx) (saw := saw) (hand := hand) (ps := (c : Int) + 1) (sum := IntKind.u64.wrap (s + x)) (ans := ans) ?hrow).mono ?_); (case hrow => (refine Row.of_eq (l := (((pendB bq own nx saw hand (c : Int) s ans).set 5 (.int .i64 ((c : Int) + 1))).set 6 (.int .u64 (IntKind.u64.wrap (s + x))))) ?_ (by simp [pendB])); (repeat (first | (with_reducible exact HPX.out) | (with_reducible refine Row.drewN ?_ _) | (with_reducible refine Row.drew ?_) | (with_reducible refine Row.far ?_ n1 _) | (with_reducible refine Row.set ?_ _ _)))); rintro e w3 ⟨rfl, hr3, hP3⟩; have hp0 := Part.trans (S' := [bp]) (S := [bp]) (w := wc) (by (repeat (first | (with_reducible refine Part.drewN ?_ _) | (with_reducible refine Part.drew ?_) | refine Part.set ?_ (by simp) _)); exact Part.refl _ _) hP3 (fun _ _ hm => hm); obtain ⟨b0, b1, b2, b3, b4⟩ := (HM.out.did.part hp0 (by simpa using e2)).five; have hres3 := HM.out.res.part hp0 (by simpa using n1); unfold noDid at hres3; obtain ⟨d0, d1, d2, d3, d4⟩ := hres3.five; have df := hres3.free; have dlt := hres3.lt; have HR3 := Lib.hid hr3; have HE3 := Lib.hid hp0; clear hres3 hr3 hP3 hp0)
      refine bodyPost_ret (v := .agg #[.int .u8 1, .int .i64 (c : Int), .int .u64 x, .int .u64 x, .bool true]) (by simp [results, Tryd.results38, go_sem, d0, d1, d2, d3, d4]) rfl ⟨rfl, ?_⟩
      refine mid_fin HM.out H.out HP.out ?_ ?_
      · repeat (refine Part.set ?_ (by simp) _)
        exact HE3.out.mono (fun q _ hm => by simp at hm ⊢; exact Or.inl hm)
      · refine Row.of_eq (l := pendB bq own .nilFunc saw hand ((c : Int) + 1) (IntKind.u64.wrap (s + x)) y) ?_ (by simp)
        repeat (first | (with_reducible exact HR3.out) | (with_reducible refine Row.far ?_ n1 _))
end
end Go.Proofs.YteoekkhgpdhnhaaDoor
