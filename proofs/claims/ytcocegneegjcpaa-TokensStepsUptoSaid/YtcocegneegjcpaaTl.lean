/- THE WALKS of package tokens: do, of an operation that is right. -/
import Derived.Test.YtcocegneegjcpaaTk
namespace Go.Proofs.Ytcocegneegjcpaa
open Go Go.RowKit

set_option maxRecDepth 100000
set_option maxHeartbeats 1600000
theorem tdo_one {w : World} {bt bk bw : Nat} {ev bu T k t n : Int} (h : Buck w bt bk bw ev bu T) (hr : RightT k t n) (h1 : (stepO ev bu T (newO k t n)).ph = 2) :
    Calls Try.prog 90 #[.pointer (some ⟨bt, 0, none⟩), .agg #[.int .u8 k, .int .i64 t, .int .i64 n]] w
      (WholeT w bt bk bw ev bu (stepW T (newO k t n)) (.tuple #[.agg #[.bool (stepO ev bu T (newO k t n)).ok, .int .i64 (stepO ev bu T (newO k t n)).wait, .int .i64 (stepO ev bu T (newO k t n)).left], .int .i64 0])) := by
  have HK1 : Hid (OkT ev bu (newO k t n)) := Lib.hid (OkT.new hr)
  have HK2 : Hid (OkT ev bu (stepO ev bu T (newO k t n))) := Lib.hid HK1.out.step
  have HD1 : Hid (decide ((newO k t n).ph = 2) = false) := Lib.hid rfl
  have HD2 : Hid (decide ((stepO ev bu T (newO k t n)).ph = 2) = true) := Lib.hid (by rw [h1]; rfl)
  have HRT := Lib.hid hr
  have H := Lib.hid h
  have g1 := h.head.lt
  have g2 := h.words.head.lt
  have g3 := h.words.row.lt
  have G1 := Lib.hid g1
  clear h hr h1
  go_enter Try.func90, Try.ntmps90
  go_wp2_with (go_at_call 41; refine (tstart_op HRT.out).mono ?_; rintro e w1 ⟨bp, rfl, hn, hr, hb⟩; have HB1 := Lib.hid hb; have HR1 := Lib.hid hr; have HN1 := Lib.hid hn; have HS1 := Lib.hid (((H.out.alloc _).alloc _).on hb); have HZ1 := Lib.hid ((Row.new2 w (.cells #[.int .u8 k, .int .i64 t, .int .i64 n] 97) 100 [.bool false, .int .i64 0, .int .i64 0] rfl).below hb (by simp)); clear hb hr hn)
  refine wp_loop_rounds 2 ?_
  rw [rounds_succ]
  go_wp2_with (first | (go_at_call 45; (with_reducible refine (tdone_op HR1.out HK1.out.ph).mono ?_); rw [HD1.out]; rintro e wx ⟨rfl, rfl⟩) | (go_at_call 43; (with_reducible refine (tstep_op HS1.out HR1.out HK1.out).mono ?_); rintro e w2 ⟨rfl, hS, hR, hP⟩; have HS2 := Lib.hid hS; have HR2 := Lib.hid hR; have HP2 := Lib.hid hP; clear hS hR hP))
  have HZ2 : Hid (Row w2 (w.heap.size + 1) 100 [.bool false, .int .i64 0, .int .i64 0]) := Lib.hid (HZ1.out.part HP2.out (by have := HN1.out; simp at this; simp; omega))
  rw [rounds_succ]
  go_wp2_with (first | (go_at_call 45; (with_reducible refine (tdone_op HR2.out HK2.out.ph).mono ?_); rw [HD2.out]; rintro e wx ⟨rfl, rfl⟩) | (go_at_call 46; refine (tanswer_op HR2.out).mono ?_; rintro e w9 ⟨rfl, hb9⟩; have HB9 := Lib.hid hb9; have hz9 := HZ2.out.below hb9 HZ2.out.lt; have z0 := hz9.cell 0; have z1 := hz9.cell 1; have z2 := hz9.cell 2; have zf := hz9.free; have zlt := hz9.lt; clear hb9 hz9))
  refine bodyPost_ret (v := .tuple #[.agg #[.bool (stepO ev bu T (newO k t n)).ok, .int .i64 (stepO ev bu T (newO k t n)).wait, .int .i64 (stepO ev bu T (newO k t n)).left], .int .i64 0]) (by simp [results, Try.results90, go_sem, z0, z1, z2]) rfl ⟨rfl, ?_⟩
  refine whole_end (bp := bp) (((((Part.refl [] w).alloc _).alloc _).on HB1.out).end_) (by have := HN1.out; simp at this; omega) HP2.out HS2.out HB9.out (lo := w.heap.size + 1) (by omega) ?_ g1 g2 g3
  repeat (first | (with_reducible exact Part.refl _ _) | refine Part.set ?_ (by simp) _)
theorem tdo_two {w : World} {bt bk bw : Nat} {ev bu T k t n : Int} (h : Buck w bt bk bw ev bu T) (hr : RightT k t n) (h1 : (stepO ev bu T (newO k t n)).ph = 1) (h2 : (stepO ev bu (stepW T (newO k t n)) (stepO ev bu T (newO k t n))).ph = 2) :
    Calls Try.prog 90 #[.pointer (some ⟨bt, 0, none⟩), .agg #[.int .u8 k, .int .i64 t, .int .i64 n]] w
      (WholeT w bt bk bw ev bu (stepW (stepW T (newO k t n)) (stepO ev bu T (newO k t n))) (.tuple #[.agg #[.bool (stepO ev bu (stepW T (newO k t n)) (stepO ev bu T (newO k t n))).ok, .int .i64 (stepO ev bu (stepW T (newO k t n)) (stepO ev bu T (newO k t n))).wait, .int .i64 (stepO ev bu (stepW T (newO k t n)) (stepO ev bu T (newO k t n))).left], .int .i64 0])) := by
  have HK1 : Hid (OkT ev bu (newO k t n)) := Lib.hid (OkT.new hr)
  have HK2 : Hid (OkT ev bu (stepO ev bu T (newO k t n))) := Lib.hid HK1.out.step
  have HK3 : Hid (OkT ev bu (stepO ev bu (stepW T (newO k t n)) (stepO ev bu T (newO k t n)))) := Lib.hid HK2.out.step
  have HD1 : Hid (decide ((newO k t n).ph = 2) = false) := Lib.hid rfl
  have HD2 : Hid (decide ((stepO ev bu T (newO k t n)).ph = 2) = false) := Lib.hid (by rw [h1]; rfl)
  have HD3 : Hid (decide ((stepO ev bu (stepW T (newO k t n)) (stepO ev bu T (newO k t n))).ph = 2) = true) := Lib.hid (by rw [h2]; rfl)
  have HRT := Lib.hid hr
  have H := Lib.hid h
  have g1 := h.head.lt
  have g2 := h.words.head.lt
  have g3 := h.words.row.lt
  have G1 := Lib.hid g1
  clear h hr h1 h2
  go_enter Try.func90, Try.ntmps90
  go_wp2_with (go_at_call 41; refine (tstart_op HRT.out).mono ?_; rintro e w1 ⟨bp, rfl, hn, hr, hb⟩; have HB1 := Lib.hid hb; have HR1 := Lib.hid hr; have HN1 := Lib.hid hn; have HS1 := Lib.hid (((H.out.alloc _).alloc _).on hb); have HZ1 := Lib.hid ((Row.new2 w (.cells #[.int .u8 k, .int .i64 t, .int .i64 n] 97) 100 [.bool false, .int .i64 0, .int .i64 0] rfl).below hb (by simp)); clear hb hr hn)
  refine wp_loop_rounds 3 ?_
  rw [rounds_succ]
  go_wp2_with (first | (go_at_call 45; (with_reducible refine (tdone_op HR1.out HK1.out.ph).mono ?_); rw [HD1.out]; rintro e wx ⟨rfl, rfl⟩) | (go_at_call 43; (with_reducible refine (tstep_op HS1.out HR1.out HK1.out).mono ?_); rintro e w2 ⟨rfl, hS, hR, hP⟩; have HS2 := Lib.hid hS; have HR2 := Lib.hid hR; have HP2 := Lib.hid hP; clear hS hR hP))
  have HZ2 : Hid (Row w2 (w.heap.size + 1) 100 [.bool false, .int .i64 0, .int .i64 0]) := Lib.hid (HZ1.out.part HP2.out (by have := HN1.out; simp at this; simp; omega))
  rw [rounds_succ]
  go_wp2_with (first | (go_at_call 45; (with_reducible refine (tdone_op HR2.out HK2.out.ph).mono ?_); rw [HD2.out]; rintro e wx ⟨rfl, rfl⟩) | (go_at_call 43; (with_reducible refine (tstep_op HS2.out HR2.out HK2.out).mono ?_); rintro e w3 ⟨rfl, hS, hR, hP⟩; have HS3 := Lib.hid hS; have HR3 := Lib.hid hR; have HP3 := Lib.hid hP; clear hS hR hP))
  have HZ3 : Hid (Row w3 (w.heap.size + 1) 100 [.bool false, .int .i64 0, .int .i64 0]) := Lib.hid (HZ2.out.part HP3.out (by have := HN1.out; simp at this; simp; omega))
  rw [rounds_succ]
  go_wp2_with (first | (go_at_call 45; (with_reducible refine (tdone_op HR3.out HK3.out.ph).mono ?_); rw [HD3.out]; rintro e wx ⟨rfl, rfl⟩) | (go_at_call 46; refine (tanswer_op HR3.out).mono ?_; rintro e w9 ⟨rfl, hb9⟩; have HB9 := Lib.hid hb9; have hz9 := HZ3.out.below hb9 HZ3.out.lt; have z0 := hz9.cell 0; have z1 := hz9.cell 1; have z2 := hz9.cell 2; have zf := hz9.free; have zlt := hz9.lt; clear hb9 hz9))
  refine bodyPost_ret (v := .tuple #[.agg #[.bool (stepO ev bu (stepW T (newO k t n)) (stepO ev bu T (newO k t n))).ok, .int .i64 (stepO ev bu (stepW T (newO k t n)) (stepO ev bu T (newO k t n))).wait, .int .i64 (stepO ev bu (stepW T (newO k t n)) (stepO ev bu T (newO k t n))).left], .int .i64 0]) (by simp [results, Try.results90, go_sem, z0, z1, z2]) rfl ⟨rfl, ?_⟩
  refine whole_end (bp := bp) (((((Part.refl [] w).alloc _).alloc _).on HB1.out).end_) (by have := HN1.out; simp at this; omega) (HP2.out.then_ HP3.out) HS3.out HB9.out (lo := w.heap.size + 1) (by omega) ?_ g1 g2 g3
  repeat (first | (with_reducible exact Part.refl _ _) | refine Part.set ?_ (by simp) _)
end Go.Proofs.Ytcocegneegjcpaa
