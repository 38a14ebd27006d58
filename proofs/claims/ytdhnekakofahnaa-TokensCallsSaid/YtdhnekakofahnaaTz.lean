/- THE WALKS of the document's own answer: Whole. -/
import Derived.Test.YtdhnekakofahnaaTy
namespace Go.Proofs.Ytdhnekakofahnaa
open Go Go.RowKit

set_option maxRecDepth 100000
set_option maxHeartbeats 3200000
theorem rwhole_go {ev bu T t n m P D : Int} (w : World) (hf : fitsB ev bu = true) (T0 : 0 ≤ T) (T1 : T ≤ 3458764513820540928) (t0 : 0 ≤ t) (t1 : t ≤ 2305843009213693952) (hm : max T t = m) (hP : n * ev = P) (P0 : 0 ≤ P) (P1 : P ≤ 1152921504606846976) (hD : bu * ev = D) (D0 : 0 ≤ D) (D1 : D ≤ 1152921504606846976) (hg : m + P ≤ t + D) :
    Calls Try.prog 60 #[.int .i64 ev, .int .i64 bu, .int .i64 T, .agg #[.int .u8 1, .int .i64 t, .int .i64 n]] w fun e w' => e = .returned (.tuple #[.int .i64 (m + P), .agg #[.bool true, .int .i64 0, .int .i64 0]]) ∧ Below w.heap.size w w' := by
  have hms : max 0 t = t := by omega
  have HF := Lib.hid hf
  have HM := Lib.hid hm
  have HMS := Lib.hid hms
  have HP := Lib.hid hP
  have HD := Lib.hid hD
  clear hf hm hms hP hD
  go_enter Try.func60, Try.ntmps60
  go_wp2
  refine wp_loop_rounds 3 ?_
  rw [rounds_succ]
  go_wp2_with (go_at_call 54; refine (rstep_go _ HF.out T0 T1 (by omega) (by omega) t0 t1 HM.out HMS.out HP.out P0 P1 HD.out D0 D1 hg).mono ?_; rintro e w2 ⟨rfl, hb⟩; have hu : Row w2 (w.heap.size + 1 + 1) 98 [.int .u8 1, .int .i64 t, .int .i64 n, .bool false, .int .i64 0, .bool false, .bool false, .int .i64 0, .int .i64 0] := (Row.new3 w _ _ _ _ rfl).below hb (by simp); have hz : Row w2 (w.heap.size + 1) 96 [.bool false, .int .i64 0, .int .i64 0] := ((Row.new2 w _ _ _ rfl).alloc _).below hb (by simp); have HU2 := Lib.hid hu; have HZ2 := Lib.hid hz; obtain ⟨u0, u1, u2, u3, u4, u5, u6, u7, u8⟩ := hu.nine; have uf := hu.free; have ult := hu.lt; have z0 := hz.cell 0; have z1 := hz.cell 1; have z2 := hz.cell 2; have zf := hz.free; have zlt := hz.lt; have HB2 := Lib.hid hb; clear hu hz hb)
  rw [rounds_succ]
  go_wp2_with (go_at_call 54; refine (rstep_hit _ HF.out T0 T1 T0 T1 t0 t1 HM.out HM.out HP.out P0 P1 HD.out D0 D1 rfl).mono ?_; rintro e w3 ⟨rfl, hb⟩; have hu : Row w3 (w.heap.size + 1 + 1) 98 [.int .u8 1, .int .i64 t, .int .i64 n, .bool true, .int .i64 T, .bool false, .bool false, .int .i64 (0), .int .i64 (0)] := Row.below (Row.of_eq' (((((((((HU2.out.set 0 _).set 1 _).set 2 _).set 3 _).set 4 _).set 5 _).set 6 _).set 7 _).set 8 _) rfl) hb (by have := HU2.out.lt; simp; omega); have hz : Row w3 (w.heap.size + 1) 96 [.bool false, .int .i64 0, .int .i64 0] := Row.below (((((((((HZ2.out.far (by simp) _).far (by simp) _).far (by simp) _).far (by simp) _).far (by simp) _).far (by simp) _).far (by simp) _).far (by simp) _).far (by simp) _) hb (by have := HZ2.out.lt; simp; omega); have HU3 := Lib.hid hu; have HZ3 := Lib.hid hz; obtain ⟨u0, u1, u2, u3, u4, u5, u6, u7, u8⟩ := hu.nine; have uf := hu.free; have ult := hu.lt; have z0 := hz.cell 0; have z1 := hz.cell 1; have z2 := hz.cell 2; have zf := hz.free; have zlt := hz.lt; have HB3 := Lib.hid hb; clear hu hz hb)
  rw [rounds_succ]
  go_wp2
  go_region
  all_goals
    go_wp2_with fail
    refine bodyPost_ret (v := .tuple #[.int .i64 (m + P), .agg #[.bool true, .int .i64 0, .int .i64 0]]) (by simp [results, Try.results60, go_sem, z0, z1, z2]) rfl ⟨rfl, ?_⟩
    have hL2 : Below w.heap.size w w2 := ((((Below.refl _ _).alloc (Nat.le_refl _) _).alloc (by simp) _).alloc (by simp; omega) _ : Below w.heap.size w (((w.alloc (.cells #[.int .u8 1, .int .i64 t, .int .i64 n] 93)).alloc (.cells #[.bool false, .int .i64 0, .int .i64 0] 96)).alloc (.cells #[.int .u8 1, .int .i64 t, .int .i64 n, .bool false, .int .i64 0, .bool false, .bool false, .int .i64 0, .int .i64 0] 98))).trans (HB2.out.mono (by simp; omega))
    have hL3 : Below w.heap.size w w3 := Below.trans (((((((((hL2.setCell (by dsimp only; omega) _).setCell (by dsimp only; omega) _).setCell (by dsimp only; omega) _).setCell (by dsimp only; omega) _).setCell (by dsimp only; omega) _).setCell (by dsimp only; omega) _).setCell (by dsimp only; omega) _).setCell (by dsimp only; omega) _).setCell (by dsimp only; omega) _) (HB3.out.mono (by simp; exact hL2.size))
    repeat (first | (with_reducible exact hL3) | (with_reducible refine Below.drew ?_) | refine Below.setCell ?_ (by dsimp only; omega) _)
theorem rwhole_stop {ev bu T t n m P D : Int} (w : World) (hf : fitsB ev bu = true) (T0 : 0 ≤ T) (T1 : T ≤ 3458764513820540928) (t0 : 0 ≤ t) (t1 : t ≤ 2305843009213693952) (hm : max T t = m) (hP : n * ev = P) (P0 : 0 ≤ P) (P1 : P ≤ 1152921504606846976) (hD : bu * ev = D) (D0 : 0 ≤ D) (D1 : D ≤ 1152921504606846976) (hg : t + D < m + P) (hn : n ≤ bu) :
    Calls Try.prog 60 #[.int .i64 ev, .int .i64 bu, .int .i64 T, .agg #[.int .u8 1, .int .i64 t, .int .i64 n]] w fun e w' => e = .returned (.tuple #[.int .i64 (T), .agg #[.bool false, .int .i64 (m + P - t - D), .int .i64 0]]) ∧ Below w.heap.size w w' := by
  have hms : max 0 t = t := by omega
  have HF := Lib.hid hf
  have HM := Lib.hid hm
  have HMS := Lib.hid hms
  have HP := Lib.hid hP
  have HD := Lib.hid hD
  clear hf hm hms hP hD
  go_enter Try.func60, Try.ntmps60
  go_wp2
  refine wp_loop_rounds 2 ?_
  rw [rounds_succ]
  go_wp2_with (go_at_call 54; refine (rstep_stop _ HF.out T0 T1 (by omega) (by omega) t0 t1 HM.out HMS.out HP.out P0 P1 HD.out D0 D1 hg hn).mono ?_; rintro e w2 ⟨rfl, hb⟩; have hu : Row w2 (w.heap.size + 1 + 1) 98 [.int .u8 1, .int .i64 t, .int .i64 n, .bool false, .int .i64 0, .bool false, .bool false, .int .i64 0, .int .i64 0] := (Row.new3 w _ _ _ _ rfl).below hb (by simp); have hz : Row w2 (w.heap.size + 1) 96 [.bool false, .int .i64 0, .int .i64 0] := ((Row.new2 w _ _ _ rfl).alloc _).below hb (by simp); have HU2 := Lib.hid hu; have HZ2 := Lib.hid hz; obtain ⟨u0, u1, u2, u3, u4, u5, u6, u7, u8⟩ := hu.nine; have uf := hu.free; have ult := hu.lt; have z0 := hz.cell 0; have z1 := hz.cell 1; have z2 := hz.cell 2; have zf := hz.free; have zlt := hz.lt; have HB2 := Lib.hid hb; clear hu hz hb)
  rw [rounds_succ]
  go_wp2
  go_region
  all_goals
    go_wp2_with fail
    refine bodyPost_ret (v := .tuple #[.int .i64 (T), .agg #[.bool false, .int .i64 (m + P - t - D), .int .i64 0]]) (by simp [results, Try.results60, go_sem, z0, z1, z2]) rfl ⟨rfl, ?_⟩
    have hL2 : Below w.heap.size w w2 := ((((Below.refl _ _).alloc (Nat.le_refl _) _).alloc (by simp) _).alloc (by simp; omega) _ : Below w.heap.size w (((w.alloc (.cells #[.int .u8 1, .int .i64 t, .int .i64 n] 93)).alloc (.cells #[.bool false, .int .i64 0, .int .i64 0] 96)).alloc (.cells #[.int .u8 1, .int .i64 t, .int .i64 n, .bool false, .int .i64 0, .bool false, .bool false, .int .i64 0, .int .i64 0] 98))).trans (HB2.out.mono (by simp; omega))
    repeat (first | (with_reducible exact hL2) | (with_reducible refine Below.drew ?_) | refine Below.setCell ?_ (by dsimp only; omega) _)
theorem rwhole_never {ev bu T t n m P D : Int} (w : World) (hf : fitsB ev bu = true) (T0 : 0 ≤ T) (T1 : T ≤ 3458764513820540928) (t0 : 0 ≤ t) (t1 : t ≤ 2305843009213693952) (hm : max T t = m) (hP : n * ev = P) (P0 : 0 ≤ P) (P1 : P ≤ 1152921504606846976) (hD : bu * ev = D) (D0 : 0 ≤ D) (D1 : D ≤ 1152921504606846976) (hg : t + D < m + P) (hn : bu < n) :
    Calls Try.prog 60 #[.int .i64 ev, .int .i64 bu, .int .i64 T, .agg #[.int .u8 1, .int .i64 t, .int .i64 n]] w fun e w' => e = .returned (.tuple #[.int .i64 (T), .agg #[.bool false, .int .i64 (-1), .int .i64 0]]) ∧ Below w.heap.size w w' := by
  have hms : max 0 t = t := by omega
  have HF := Lib.hid hf
  have HM := Lib.hid hm
  have HMS := Lib.hid hms
  have HP := Lib.hid hP
  have HD := Lib.hid hD
  clear hf hm hms hP hD
  go_enter Try.func60, Try.ntmps60
  go_wp2
  refine wp_loop_rounds 2 ?_
  rw [rounds_succ]
  go_wp2_with (go_at_call 54; refine (rstep_never _ HF.out T0 T1 (by omega) (by omega) t0 t1 HM.out HMS.out HP.out P0 P1 HD.out D0 D1 hg hn).mono ?_; rintro e w2 ⟨rfl, hb⟩; have hu : Row w2 (w.heap.size + 1 + 1) 98 [.int .u8 1, .int .i64 t, .int .i64 n, .bool false, .int .i64 0, .bool false, .bool false, .int .i64 0, .int .i64 0] := (Row.new3 w _ _ _ _ rfl).below hb (by simp); have hz : Row w2 (w.heap.size + 1) 96 [.bool false, .int .i64 0, .int .i64 0] := ((Row.new2 w _ _ _ rfl).alloc _).below hb (by simp); have HU2 := Lib.hid hu; have HZ2 := Lib.hid hz; obtain ⟨u0, u1, u2, u3, u4, u5, u6, u7, u8⟩ := hu.nine; have uf := hu.free; have ult := hu.lt; have z0 := hz.cell 0; have z1 := hz.cell 1; have z2 := hz.cell 2; have zf := hz.free; have zlt := hz.lt; have HB2 := Lib.hid hb; clear hu hz hb)
  rw [rounds_succ]
  go_wp2
  go_region
  all_goals
    go_wp2_with fail
    refine bodyPost_ret (v := .tuple #[.int .i64 (T), .agg #[.bool false, .int .i64 (-1), .int .i64 0]]) (by simp [results, Try.results60, go_sem, z0, z1, z2]) rfl ⟨rfl, ?_⟩
    have hL2 : Below w.heap.size w w2 := ((((Below.refl _ _).alloc (Nat.le_refl _) _).alloc (by simp) _).alloc (by simp; omega) _ : Below w.heap.size w (((w.alloc (.cells #[.int .u8 1, .int .i64 t, .int .i64 n] 93)).alloc (.cells #[.bool false, .int .i64 0, .int .i64 0] 96)).alloc (.cells #[.int .u8 1, .int .i64 t, .int .i64 n, .bool false, .int .i64 0, .bool false, .bool false, .int .i64 0, .int .i64 0] 98))).trans (HB2.out.mono (by simp; omega))
    repeat (first | (with_reducible exact hL2) | (with_reducible refine Below.drew ?_) | refine Below.setCell ?_ (by dsimp only; omega) _)
theorem rwhole_peek {ev bu T t n m P D : Int} (w : World) (hf : fitsB ev bu = true) (T0 : 0 ≤ T) (T1 : T ≤ 3458764513820540928) (t0 : 0 ≤ t) (t1 : t ≤ 2305843009213693952) (hm : max T t = m) (hP : n * ev = P) (P0 : 0 ≤ P) (P1 : P ≤ 1152921504606846976) (hD : bu * ev = D) (D0 : 0 ≤ D) (D1 : D ≤ 1152921504606846976)  :
    Calls Try.prog 60 #[.int .i64 ev, .int .i64 bu, .int .i64 T, .agg #[.int .u8 2, .int .i64 t, .int .i64 n]] w fun e w' => e = .returned (.tuple #[.int .i64 (T), .agg #[.bool false, .int .i64 0, .int .i64 (roomV ev bu T t / ev)]]) ∧ Below w.heap.size w w' := by
  have hms : max 0 t = t := by omega
  have HF := Lib.hid hf
  have HM := Lib.hid hm
  have HMS := Lib.hid hms
  have HP := Lib.hid hP
  have HD := Lib.hid hD
  clear hf hm hms hP hD
  go_enter Try.func60, Try.ntmps60
  go_wp2
  refine wp_loop_rounds 2 ?_
  rw [rounds_succ]
  go_wp2_with (go_at_call 54; refine (rstep_peek _ HF.out T0 T1 (by omega) (by omega) t0 t1 HM.out HMS.out HP.out P0 P1 HD.out D0 D1).mono ?_; rintro e w2 ⟨rfl, hb⟩; have hu : Row w2 (w.heap.size + 1 + 1) 98 [.int .u8 2, .int .i64 t, .int .i64 n, .bool false, .int .i64 0, .bool false, .bool false, .int .i64 0, .int .i64 0] := (Row.new3 w _ _ _ _ rfl).below hb (by simp); have hz : Row w2 (w.heap.size + 1) 96 [.bool false, .int .i64 0, .int .i64 0] := ((Row.new2 w _ _ _ rfl).alloc _).below hb (by simp); have HU2 := Lib.hid hu; have HZ2 := Lib.hid hz; obtain ⟨u0, u1, u2, u3, u4, u5, u6, u7, u8⟩ := hu.nine; have uf := hu.free; have ult := hu.lt; have z0 := hz.cell 0; have z1 := hz.cell 1; have z2 := hz.cell 2; have zf := hz.free; have zlt := hz.lt; have HB2 := Lib.hid hb; clear hu hz hb)
  rw [rounds_succ]
  go_wp2
  go_region
  all_goals
    go_wp2_with fail
    refine bodyPost_ret (v := .tuple #[.int .i64 (T), .agg #[.bool false, .int .i64 0, .int .i64 (roomV ev bu T t / ev)]]) (by simp [results, Try.results60, go_sem, z0, z1, z2]) rfl ⟨rfl, ?_⟩
    have hL2 : Below w.heap.size w w2 := ((((Below.refl _ _).alloc (Nat.le_refl _) _).alloc (by simp) _).alloc (by simp; omega) _ : Below w.heap.size w (((w.alloc (.cells #[.int .u8 2, .int .i64 t, .int .i64 n] 93)).alloc (.cells #[.bool false, .int .i64 0, .int .i64 0] 96)).alloc (.cells #[.int .u8 2, .int .i64 t, .int .i64 n, .bool false, .int .i64 0, .bool false, .bool false, .int .i64 0, .int .i64 0] 98))).trans (HB2.out.mono (by simp; omega))
    repeat (first | (with_reducible exact hL2) | (with_reducible refine Below.drew ?_) | refine Below.setCell ?_ (by dsimp only; omega) _)

theorem rwhole_take {ev bu T t n : Int} (w : World) (hf : fitsB ev bu = true) (T0 : 0 ≤ T) (T1 : T ≤ 3458764513820540928) (hr : RightT 1 t n) :
    Calls Try.prog 60 #[.int .i64 ev, .int .i64 bu, .int .i64 T, .agg #[.int .u8 1, .int .i64 t, .int .i64 n]] w fun e w' => e = .returned (.tuple #[.int .i64 (takeW ev bu T t n), .agg #[.bool (takeB ev bu T t n), .int .i64 (waitT ev bu T t n), .int .i64 0]]) ∧ Below w.heap.size w w' := by
  obtain ⟨a, b, c, d⟩ := fits_bounds hf
  obtain ⟨D0, D1⟩ := mul_bounds (n := bu) (ev := ev) (by omega) d a b
  obtain ⟨⟨t0, t1⟩, hk⟩ := hr
  obtain ⟨n0, n1⟩ : 1 ≤ n ∧ n ≤ 1048576 := by omega
  obtain ⟨p0, p1⟩ := mul_bounds (n := n) (ev := ev) (by omega) n1 a b
  by_cases hg : max T t + n * ev ≤ t + bu * ev
  · exact (rwhole_go w hf T0 T1 t0 t1 rfl rfl p0 p1 rfl D0 D1 hg).mono fun e w' ⟨he, hb⟩ => ⟨by rw [he]; simp [takeW, takeB, waitT, hg], hb⟩
  · by_cases hn : bu < n
    · exact (rwhole_never w hf T0 T1 t0 t1 rfl rfl p0 p1 rfl D0 D1 (by omega) hn).mono fun e w' ⟨he, hb⟩ => ⟨by rw [he]; simp [takeW, takeB, waitT, stopV, hg, hn], hb⟩
    · exact (rwhole_stop w hf T0 T1 t0 t1 rfl rfl p0 p1 rfl D0 D1 (by omega) (by omega)).mono fun e w' ⟨he, hb⟩ => ⟨by rw [he]; simp [takeW, takeB, waitT, stopV, hg, hn]; omega, hb⟩
theorem rwhole_look {ev bu T t : Int} (w : World) (hf : fitsB ev bu = true) (T0 : 0 ≤ T) (T1 : T ≤ 3458764513820540928) (hr : RightT 2 t 0) :
    Calls Try.prog 60 #[.int .i64 ev, .int .i64 bu, .int .i64 T, .agg #[.int .u8 2, .int .i64 t, .int .i64 0]] w fun e w' => e = .returned (.tuple #[.int .i64 T, .agg #[.bool false, .int .i64 0, .int .i64 (roomV ev bu T t / ev)]]) ∧ Below w.heap.size w w' := by
  obtain ⟨a, b, c, d⟩ := fits_bounds hf
  obtain ⟨D0, D1⟩ := mul_bounds (n := bu) (ev := ev) (by omega) d a b
  obtain ⟨⟨t0, t1⟩, _⟩ := hr
  exact rwhole_peek (n := 0) (P := 0) w hf T0 T1 t0 t1 rfl (by simp) (by omega) (by omega) rfl D0 D1
end Go.Proofs.Ytdhnekakofahnaa
