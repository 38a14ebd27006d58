/- THE WALKS of package shards: a step of a sum, of a taking. -/
import Derived.Test.YtcocegneegjcpaaSi
namespace Go.Proofs.Ytcocegneegjcpaa
open Go Go.RowKit

theorem Words.far {w : World} {bk bw : Nat} {ws : List Int} (h : Words w bk bw ws) {p : Addr} (h1 : ¬ p.block = bk) (h2 : ¬ p.block = bw) (u : Value) : Words (w.setCell p u) bk bw ws := ⟨h.head.far h1 u, h.row.far h2 u, h.few, h.ok⟩
theorem quiet_behind {P : Program} {f : FuncId} {args : Array Value} {w : World} {a n : Nat} {v : Value} (h : Calls P f args (w.drewN (a + n)) fun e w' => e = .returned v ∧ w.drewN (a + n) = w') :
    Calls P f args (w.drewN (a + n)) fun e w'' => e = .returned v ∧ ∃ m, w'' = w.drewN (a + m) := h.mono fun _ _ h' => ⟨h'.1, n, h'.2.symm⟩
theorem Words.drewN {w : World} {bk bw : Nat} {ws : List Int} (h : Words w bk bw ws) (n : Nat) : Words (w.drewN n) bk bw ws := ⟨h.head, h.row, h.few, h.ok⟩
set_option maxHeartbeats 1600000
set_option maxRecDepth 100000
theorem fsum_last {w : World} {bk bw bp : Nat} {ws : List Int} (h : Words w bk bw ws) {c : Nat} {x s : Int} {nx : Value} (hx : ws[c]? = some x) (hp : Row w bp 126 (pendL bk 1 c 0 nx s)) (hn : c + 1 = ws.length) :
    Calls Try.prog 64 #[.pointer (some ⟨bp, 0, none⟩)] w (Stepped w bk bw bp ws (pendL bk 1 ((c + 1 : Nat) : Int) 0 .nilFunc (IntKind.u64.wrap (s + x))) (.agg #[.int .u8 1, .int .i64 (c : Int), .int .u64 x, .int .u64 x, .bool true])) := by
  obtain ⟨c0, c1, c2, c3, c4, c5, c6⟩ := pend_cells hp
  have hf := hp.free
  have hbp := hp.lt
  have hbw := h.row.lt
  have HM1 : Hid (w.heap.size + 1 ∉ [bw]) := Lib.hid (by simp; omega)
  have HX := Lib.hid hx
  have H := Lib.hid h
  have HP := Lib.hid hp
  have hcb : c ≤ 1000000 := by have := h.few; have := lt_of_get hx; omega
  have hll : ws.length = ws.length := by simp
  have hq : ((c : Int) + 1 == ((ws.length : Nat) : Int)) = true := by rw [beq_iff_eq]; omega
  clear hn
  clear h hp hx
  go_enter Try.func64, Try.ntmps64
  go_upto_region 1 with fail
  go_cut [3] (fun s3 wx => Mid w bk bw bp ws (pendL bk 1 c 0 nx s) [.int .u8 1, .int .i64 (c : Int), .int .u64 x, .int .u64 x, .bool true] s3 wx)
  case first =>
    go_region_with (first
      | (go_at_call 81; (with_reducible refine (do_load (H.out.alloc _).drew HX.out).mono ?_); rintro e w2 ⟨rfl, hW2, hP2⟩; have HMA := Lib.hid (mid_a H.out HP.out hW2 hP2 (did := [.int .u8 1, .int .i64 (c : Int), .int .u64 x, .int .u64 x, .bool true])); clear hW2 hP2)
      | (go_at_call 81; (with_reducible refine (do_load ((H.out.alloc _).alloc _).drew HX.out).mono ?_); rintro e w2 ⟨rfl, hW2, hP2⟩; have HMB := Lib.hid (mid_b H.out HP.out hW2 hP2 (k := 1) (c := (c : Int)) (saw := x) (put := x) (ok := true)); have hr3 : Row w2 (w.heap.size + 1) 45 noDid := Row.part (Row.new2 w _ _ _ rfl).drew hP2 HM1.out; unfold noDid at hr3; obtain ⟨b0, b1, b2, b3, b4⟩ := hr3.five; have hf3 := hr3.free; have hlt3 := hr3.lt; clear hr3 hW2 hP2))
    all_goals
      go_wp2_with fail
      go_meet
      first | exact ⟨_, rfl, HMA.out⟩ | exact ⟨_, rfl, HMB.out⟩ | exact ⟨_, rfl, HMA.out.drew⟩ | exact ⟨_, rfl, HMB.out.drew⟩
  case rest =>
    obtain ⟨g, rfl, hM⟩ := hcut
    have HM := Lib.hid hM
    obtain ⟨p0, p1, p2, p3, p4, p5, p6⟩ := pend_cells hM.pend
    have pf := hM.pend.free
    have plt := hM.pend.lt
    obtain ⟨b0, b1, b2, b3, b4⟩ := hM.did.five
    have bf := hM.did.free
    have blt := hM.did.lt
    have hres := hM.res
    unfold noDid at hres
    obtain ⟨d0, d1, d2, d3, d4⟩ := hres.five
    have df := hres.free
    have dlt := hres.lt
    have hg := hM.lo
    have e1 : ¬ bp = g := by omega
    have e2 : ¬ g = bp := by omega
    have e3 : ¬ g = w.heap.size := by omega
    have e4 : ¬ w.heap.size = g := by omega
    have e5 : ¬ bp = w.heap.size := by omega
    have e6 : ¬ w.heap.size = bp := by omega
    have hM0 := hM
    clear hM hres
    have e7 : ¬ bp = bk := fun e => (hM0.words.head.ne hM0.pend (by decide)) e.symm
    have e8 : ¬ bp = bw := fun e => (hM0.words.row.ne hM0.pend (by decide)) e.symm
    clear hM0
    go_wp2
    go_region
    all_goals go_wp2
    all_goals go_quiet ((go_at_call 60; refine quiet_behind (len_any (bw := bw) (ws := ws) ?_); (repeat (first | (with_reducible exact HM.out.words) | (with_reducible refine Words.drewN ?_ _) | (with_reducible refine Words.drew ?_) | (with_reducible refine Words.far ?_ e7 e8 _)))))
    all_goals go_wp2
    all_goals
      refine bodyPost_ret (v := .agg #[.int .u8 1, .int .i64 (c : Int), .int .u64 x, .int .u64 x, .bool true]) (by simp [results, Try.results64, go_sem, d0, d1, d2, d3, d4]) rfl ⟨rfl, ?_⟩
      refine mid_end HM.out H.out hbp (l' := (((pendL bk 1 c 0 nx s).set 6 (.int .u64 (IntKind.u64.wrap (s + x)))).set 2 (.int .i64 ((c : Int) + 1))).set 5 .nilFunc) ?_ ?_ (by simp [pendL])
      · repeat ((first | (with_reducible refine Part.drewN ?_ _) | (with_reducible refine Part.drew ?_) | refine Part.set ?_ (by simp) _))
        exact Part.refl _ _
      · repeat (first | (with_reducible exact HM.out.pend) | (with_reducible refine Row.drewN ?_ _) | (with_reducible refine Row.drew ?_) | (with_reducible refine Row.far ?_ (by first | exact e1 | exact e2 | exact e5 | exact e6) _) | (with_reducible refine Row.set ?_ _ _))
theorem fsum_more {w : World} {bk bw bp : Nat} {ws : List Int} (h : Words w bk bw ws) {c : Nat} {x s : Int} {nx : Value} (hx : ws[c]? = some x) (hp : Row w bp 126 (pendL bk 1 c 0 nx s)) (hn : c + 1 < ws.length) :
    Calls Try.prog 64 #[.pointer (some ⟨bp, 0, none⟩)] w (Stepped w bk bw bp ws (pendL bk 1 ((c + 1 : Nat) : Int) 0 nx (IntKind.u64.wrap (s + x))) (.agg #[.int .u8 1, .int .i64 (c : Int), .int .u64 x, .int .u64 x, .bool true])) := by
  obtain ⟨c0, c1, c2, c3, c4, c5, c6⟩ := pend_cells hp
  have hf := hp.free
  have hbp := hp.lt
  have hbw := h.row.lt
  have HM1 : Hid (w.heap.size + 1 ∉ [bw]) := Lib.hid (by simp; omega)
  have HX := Lib.hid hx
  have H := Lib.hid h
  have HP := Lib.hid hp
  have hcb : c ≤ 1000000 := by have := h.few; have := lt_of_get hx; omega
  have hll : ws.length = ws.length := by simp
  have hq : ((c : Int) + 1 == ((ws.length : Nat) : Int)) = false := by rw [beq_eq_false_iff_ne]; omega
  clear hn
  clear h hp hx
  go_enter Try.func64, Try.ntmps64
  go_upto_region 1 with fail
  go_cut [3] (fun s3 wx => Mid w bk bw bp ws (pendL bk 1 c 0 nx s) [.int .u8 1, .int .i64 (c : Int), .int .u64 x, .int .u64 x, .bool true] s3 wx)
  case first =>
    go_region_with (first
      | (go_at_call 81; (with_reducible refine (do_load (H.out.alloc _).drew HX.out).mono ?_); rintro e w2 ⟨rfl, hW2, hP2⟩; have HMA := Lib.hid (mid_a H.out HP.out hW2 hP2 (did := [.int .u8 1, .int .i64 (c : Int), .int .u64 x, .int .u64 x, .bool true])); clear hW2 hP2)
      | (go_at_call 81; (with_reducible refine (do_load ((H.out.alloc _).alloc _).drew HX.out).mono ?_); rintro e w2 ⟨rfl, hW2, hP2⟩; have HMB := Lib.hid (mid_b H.out HP.out hW2 hP2 (k := 1) (c := (c : Int)) (saw := x) (put := x) (ok := true)); have hr3 : Row w2 (w.heap.size + 1) 45 noDid := Row.part (Row.new2 w _ _ _ rfl).drew hP2 HM1.out; unfold noDid at hr3; obtain ⟨b0, b1, b2, b3, b4⟩ := hr3.five; have hf3 := hr3.free; have hlt3 := hr3.lt; clear hr3 hW2 hP2))
    all_goals
      go_wp2_with fail
      go_meet
      first | exact ⟨_, rfl, HMA.out⟩ | exact ⟨_, rfl, HMB.out⟩ | exact ⟨_, rfl, HMA.out.drew⟩ | exact ⟨_, rfl, HMB.out.drew⟩
  case rest =>
    obtain ⟨g, rfl, hM⟩ := hcut
    have HM := Lib.hid hM
    obtain ⟨p0, p1, p2, p3, p4, p5, p6⟩ := pend_cells hM.pend
    have pf := hM.pend.free
    have plt := hM.pend.lt
    obtain ⟨b0, b1, b2, b3, b4⟩ := hM.did.five
    have bf := hM.did.free
    have blt := hM.did.lt
    have hres := hM.res
    unfold noDid at hres
    obtain ⟨d0, d1, d2, d3, d4⟩ := hres.five
    have df := hres.free
    have dlt := hres.lt
    have hg := hM.lo
    have e1 : ¬ bp = g := by omega
    have e2 : ¬ g = bp := by omega
    have e3 : ¬ g = w.heap.size := by omega
    have e4 : ¬ w.heap.size = g := by omega
    have e5 : ¬ bp = w.heap.size := by omega
    have e6 : ¬ w.heap.size = bp := by omega
    have hM0 := hM
    clear hM hres
    have e7 : ¬ bp = bk := fun e => (hM0.words.head.ne hM0.pend (by decide)) e.symm
    have e8 : ¬ bp = bw := fun e => (hM0.words.row.ne hM0.pend (by decide)) e.symm
    clear hM0
    go_wp2
    go_region
    all_goals go_wp2
    all_goals go_quiet ((go_at_call 60; refine quiet_behind (len_any (bw := bw) (ws := ws) ?_); (repeat (first | (with_reducible exact HM.out.words) | (with_reducible refine Words.drewN ?_ _) | (with_reducible refine Words.drew ?_) | (with_reducible refine Words.far ?_ e7 e8 _)))))
    all_goals go_wp2
    all_goals
      refine bodyPost_ret (v := .agg #[.int .u8 1, .int .i64 (c : Int), .int .u64 x, .int .u64 x, .bool true]) (by simp [results, Try.results64, go_sem, d0, d1, d2, d3, d4]) rfl ⟨rfl, ?_⟩
      refine mid_end HM.out H.out hbp (l' := ((pendL bk 1 c 0 nx s).set 6 (.int .u64 (IntKind.u64.wrap (s + x)))).set 2 (.int .i64 ((c : Int) + 1))) ?_ ?_ (by simp [pendL])
      · repeat ((first | (with_reducible refine Part.drewN ?_ _) | (with_reducible refine Part.drew ?_) | refine Part.set ?_ (by simp) _))
        exact Part.refl _ _
      · repeat (first | (with_reducible exact HM.out.pend) | (with_reducible refine Row.drewN ?_ _) | (with_reducible refine Row.drew ?_) | (with_reducible refine Row.far ?_ (by first | exact e1 | exact e2 | exact e5 | exact e6) _) | (with_reducible refine Row.set ?_ _ _))
theorem ftake_last {w : World} {bk bw bp : Nat} {ws : List Int} (h : Words w bk bw ws) {c : Nat} {x s : Int} {nx : Value} (hx : ws[c]? = some x) (hp : Row w bp 126 (pendL bk 4 c 0 nx s)) (hn : c + 1 = ws.length) :
    Calls Try.prog 64 #[.pointer (some ⟨bp, 0, none⟩)] w (Stepped w bk bw bp (ws.set c 0) (pendL bk 4 ((c + 1 : Nat) : Int) 0 .nilFunc (IntKind.u64.wrap (s + x))) (.agg #[.int .u8 4, .int .i64 (c : Int), .int .u64 x, .int .u64 0, .bool true])) := by
  obtain ⟨c0, c1, c2, c3, c4, c5, c6⟩ := pend_cells hp
  have hf := hp.free
  have hbp := hp.lt
  have hbw := h.row.lt
  have HM1 : Hid (w.heap.size + 1 ∉ [bw]) := Lib.hid (by simp; omega)
  have HX := Lib.hid hx
  have H := Lib.hid h
  have HP := Lib.hid hp
  have hcb : c ≤ 1000000 := by have := h.few; have := lt_of_get hx; omega
  have hll : (ws.set c 0).length = ws.length := by simp
  have hq : ((c : Int) + 1 == ((ws.length : Nat) : Int)) = true := by rw [beq_iff_eq]; omega
  clear hn
  clear h hp hx
  go_enter Try.func64, Try.ntmps64
  go_upto_region 1 with fail
  go_cut [3] (fun s3 wx => Mid w bk bw bp (ws.set c 0) (pendL bk 4 c 0 nx s) [.int .u8 4, .int .i64 (c : Int), .int .u64 x, .int .u64 0, .bool true] s3 wx)
  case first =>
    go_region_with (first
      | (go_at_call 81; (with_reducible refine (do_swap (H.out.alloc _).drew HX.out U64.zero).mono ?_); rintro e w2 ⟨rfl, hW2, hP2⟩; have HMA := Lib.hid (mid_a H.out HP.out hW2 hP2 (did := [.int .u8 4, .int .i64 (c : Int), .int .u64 x, .int .u64 0, .bool true])); clear hW2 hP2)
      | (go_at_call 81; (with_reducible refine (do_swap ((H.out.alloc _).alloc _).drew HX.out U64.zero).mono ?_); rintro e w2 ⟨rfl, hW2, hP2⟩; have HMB := Lib.hid (mid_b H.out HP.out hW2 hP2 (k := 4) (c := (c : Int)) (saw := x) (put := 0) (ok := true)); have hr3 : Row w2 (w.heap.size + 1) 45 noDid := Row.part (Row.new2 w _ _ _ rfl).drew hP2 HM1.out; unfold noDid at hr3; obtain ⟨b0, b1, b2, b3, b4⟩ := hr3.five; have hf3 := hr3.free; have hlt3 := hr3.lt; clear hr3 hW2 hP2))
    all_goals
      go_wp2_with fail
      go_meet
      first | exact ⟨_, rfl, HMA.out⟩ | exact ⟨_, rfl, HMB.out⟩ | exact ⟨_, rfl, HMA.out.drew⟩ | exact ⟨_, rfl, HMB.out.drew⟩
  case rest =>
    obtain ⟨g, rfl, hM⟩ := hcut
    have HM := Lib.hid hM
    obtain ⟨p0, p1, p2, p3, p4, p5, p6⟩ := pend_cells hM.pend
    have pf := hM.pend.free
    have plt := hM.pend.lt
    obtain ⟨b0, b1, b2, b3, b4⟩ := hM.did.five
    have bf := hM.did.free
    have blt := hM.did.lt
    have hres := hM.res
    unfold noDid at hres
    obtain ⟨d0, d1, d2, d3, d4⟩ := hres.five
    have df := hres.free
    have dlt := hres.lt
    have hg := hM.lo
    have e1 : ¬ bp = g := by omega
    have e2 : ¬ g = bp := by omega
    have e3 : ¬ g = w.heap.size := by omega
    have e4 : ¬ w.heap.size = g := by omega
    have e5 : ¬ bp = w.heap.size := by omega
    have e6 : ¬ w.heap.size = bp := by omega
    have hM0 := hM
    clear hM hres
    have e7 : ¬ bp = bk := fun e => (hM0.words.head.ne hM0.pend (by decide)) e.symm
    have e8 : ¬ bp = bw := fun e => (hM0.words.row.ne hM0.pend (by decide)) e.symm
    clear hM0
    go_wp2
    go_region
    all_goals go_wp2
    all_goals go_quiet ((go_at_call 60; refine quiet_behind (len_any (bw := bw) (ws := (ws.set c 0)) ?_); (repeat (first | (with_reducible exact HM.out.words) | (with_reducible refine Words.drewN ?_ _) | (with_reducible refine Words.drew ?_) | (with_reducible refine Words.far ?_ e7 e8 _)))))
    all_goals go_wp2
    all_goals
      refine bodyPost_ret (v := .agg #[.int .u8 4, .int .i64 (c : Int), .int .u64 x, .int .u64 0, .bool true]) (by simp [results, Try.results64, go_sem, d0, d1, d2, d3, d4]) rfl ⟨rfl, ?_⟩
      refine mid_end HM.out H.out hbp (l' := (((pendL bk 4 c 0 nx s).set 6 (.int .u64 (IntKind.u64.wrap (s + x)))).set 2 (.int .i64 ((c : Int) + 1))).set 5 .nilFunc) ?_ ?_ (by simp [pendL])
      · repeat ((first | (with_reducible refine Part.drewN ?_ _) | (with_reducible refine Part.drew ?_) | refine Part.set ?_ (by simp) _))
        exact Part.refl _ _
      · repeat (first | (with_reducible exact HM.out.pend) | (with_reducible refine Row.drewN ?_ _) | (with_reducible refine Row.drew ?_) | (with_reducible refine Row.far ?_ (by first | exact e1 | exact e2 | exact e5 | exact e6) _) | (with_reducible refine Row.set ?_ _ _))
theorem ftake_more {w : World} {bk bw bp : Nat} {ws : List Int} (h : Words w bk bw ws) {c : Nat} {x s : Int} {nx : Value} (hx : ws[c]? = some x) (hp : Row w bp 126 (pendL bk 4 c 0 nx s)) (hn : c + 1 < ws.length) :
    Calls Try.prog 64 #[.pointer (some ⟨bp, 0, none⟩)] w (Stepped w bk bw bp (ws.set c 0) (pendL bk 4 ((c + 1 : Nat) : Int) 0 nx (IntKind.u64.wrap (s + x))) (.agg #[.int .u8 4, .int .i64 (c : Int), .int .u64 x, .int .u64 0, .bool true])) := by
  obtain ⟨c0, c1, c2, c3, c4, c5, c6⟩ := pend_cells hp
  have hf := hp.free
  have hbp := hp.lt
  have hbw := h.row.lt
  have HM1 : Hid (w.heap.size + 1 ∉ [bw]) := Lib.hid (by simp; omega)
  have HX := Lib.hid hx
  have H := Lib.hid h
  have HP := Lib.hid hp
  have hcb : c ≤ 1000000 := by have := h.few; have := lt_of_get hx; omega
  have hll : (ws.set c 0).length = ws.length := by simp
  have hq : ((c : Int) + 1 == ((ws.length : Nat) : Int)) = false := by rw [beq_eq_false_iff_ne]; omega
  clear hn
  clear h hp hx
  go_enter Try.func64, Try.ntmps64
  go_upto_region 1 with fail
  go_cut [3] (fun s3 wx => Mid w bk bw bp (ws.set c 0) (pendL bk 4 c 0 nx s) [.int .u8 4, .int .i64 (c : Int), .int .u64 x, .int .u64 0, .bool true] s3 wx)
  case first =>
    go_region_with (first
      | (go_at_call 81; (with_reducible refine (do_swap (H.out.alloc _).drew HX.out U64.zero).mono ?_); rintro e w2 ⟨rfl, hW2, hP2⟩; have HMA := Lib.hid (mid_a H.out HP.out hW2 hP2 (did := [.int .u8 4, .int .i64 (c : Int), .int .u64 x, .int .u64 0, .bool true])); clear hW2 hP2)
      | (go_at_call 81; (with_reducible refine (do_swap ((H.out.alloc _).alloc _).drew HX.out U64.zero).mono ?_); rintro e w2 ⟨rfl, hW2, hP2⟩; have HMB := Lib.hid (mid_b H.out HP.out hW2 hP2 (k := 4) (c := (c : Int)) (saw := x) (put := 0) (ok := true)); have hr3 : Row w2 (w.heap.size + 1) 45 noDid := Row.part (Row.new2 w _ _ _ rfl).drew hP2 HM1.out; unfold noDid at hr3; obtain ⟨b0, b1, b2, b3, b4⟩ := hr3.five; have hf3 := hr3.free; have hlt3 := hr3.lt; clear hr3 hW2 hP2))
    all_goals
      go_wp2_with fail
      go_meet
      first | exact ⟨_, rfl, HMA.out⟩ | exact ⟨_, rfl, HMB.out⟩ | exact ⟨_, rfl, HMA.out.drew⟩ | exact ⟨_, rfl, HMB.out.drew⟩
  case rest =>
    obtain ⟨g, rfl, hM⟩ := hcut
    have HM := Lib.hid hM
    obtain ⟨p0, p1, p2, p3, p4, p5, p6⟩ := pend_cells hM.pend
    have pf := hM.pend.free
    have plt := hM.pend.lt
    obtain ⟨b0, b1, b2, b3, b4⟩ := hM.did.five
    have bf := hM.did.free
    have blt := hM.did.lt
    have hres := hM.res
    unfold noDid at hres
    obtain ⟨d0, d1, d2, d3, d4⟩ := hres.five
    have df := hres.free
    have dlt := hres.lt
    have hg := hM.lo
    have e1 : ¬ bp = g := by omega
    have e2 : ¬ g = bp := by omega
    have e3 : ¬ g = w.heap.size := by omega
    have e4 : ¬ w.heap.size = g := by omega
    have e5 : ¬ bp = w.heap.size := by omega
    have e6 : ¬ w.heap.size = bp := by omega
    have hM0 := hM
    clear hM hres
    have e7 : ¬ bp = bk := fun e => (hM0.words.head.ne hM0.pend (by decide)) e.symm
    have e8 : ¬ bp = bw := fun e => (hM0.words.row.ne hM0.pend (by decide)) e.symm
    clear hM0
    go_wp2
    go_region
    all_goals go_wp2
    all_goals go_quiet ((go_at_call 60; refine quiet_behind (len_any (bw := bw) (ws := (ws.set c 0)) ?_); (repeat (first | (with_reducible exact HM.out.words) | (with_reducible refine Words.drewN ?_ _) | (with_reducible refine Words.drew ?_) | (with_reducible refine Words.far ?_ e7 e8 _)))))
    all_goals go_wp2
    all_goals
      refine bodyPost_ret (v := .agg #[.int .u8 4, .int .i64 (c : Int), .int .u64 x, .int .u64 0, .bool true]) (by simp [results, Try.results64, go_sem, d0, d1, d2, d3, d4]) rfl ⟨rfl, ?_⟩
      refine mid_end HM.out H.out hbp (l' := ((pendL bk 4 c 0 nx s).set 6 (.int .u64 (IntKind.u64.wrap (s + x)))).set 2 (.int .i64 ((c : Int) + 1))) ?_ ?_ (by simp [pendL])
      · repeat ((first | (with_reducible refine Part.drewN ?_ _) | (with_reducible refine Part.drew ?_) | refine Part.set ?_ (by simp) _))
        exact Part.refl _ _
      · repeat (first | (with_reducible exact HM.out.pend) | (with_reducible refine Row.drewN ?_ _) | (with_reducible refine Row.drew ?_) | (with_reducible refine Row.far ?_ (by first | exact e1 | exact e2 | exact e5 | exact e6) _) | (with_reducible refine Row.set ?_ _ _))
end Go.Proofs.Ytcocegneegjcpaa
