/- THE WALKS of the document's own answer: Step, refused. -/
import Derived.Test.YtcocegneegjcpaaTu
namespace Go.Proofs.Ytcocegneegjcpaa
open Go Go.RowKit

set_option maxRecDepth 100000
set_option maxHeartbeats 3200000
theorem rstep_stop {ev bu T t n s m ms P D wait left : Int} {ok : Bool} (w : World) (hf : fitsB ev bu = true) (T0 : 0 ≤ T) (T1 : T ≤ 3458764513820540928) (s0 : 0 ≤ s) (s1 : s ≤ 3458764513820540928) (t0 : 0 ≤ t) (t1 : t ≤ 2305843009213693952) (hm : max T t = m) (hms : max s t = ms) (hP : n * ev = P) (P0 : 0 ≤ P) (P1 : P ≤ 1152921504606846976) (hD : bu * ev = D) (D0 : 0 ≤ D) (D1 : D ≤ 1152921504606846976) (hg : t + D < m + P) (hn : n ≤ bu) :
    Calls Try.prog 44 #[.int .i64 ev, .int .i64 bu, .int .i64 T, .agg #[.int .u8 1, .int .i64 t, .int .i64 n, .bool false, .int .i64 s, .bool false, .bool ok, .int .i64 (wait), .int .i64 (left)]] w fun e w' => e = .returned (.tuple #[.int .i64 (T), .agg #[.int .u8 1, .int .i64 t, .int .i64 n, .bool false, .int .i64 T, .bool true, .bool false, .int .i64 (m + P - t - D), .int .i64 (0)], .agg #[.int .u8 1, .int .i64 0, .int .u64 T, .int .u64 T, .bool true]]) ∧ Below w.heap.size w w' := by
  have hDD := And.intro D0 (And.intro D1 hD)
  clear hDD
  have HF := Lib.hid hf
  obtain ⟨a, b, c, d⟩ := fits_bounds hf
  have HM := Lib.hid hm
  have HMS := Lib.hid hms
  have m0 : 0 ≤ m := by omega
  have m1 : m ≤ 3458764513820540928 := by omega
  have g0 : 0 ≤ ms := by omega
  have g1 : ms ≤ 3458764513820540928 := by omega
  clear hf hm hms
  go_enter Try.func44, Try.ntmps44
  go_upto_region 1 with (fail)
  go_cut [11] (fun s11 wx => s11 = .int .i64 (ms + P) ∧ StartU w [.int .u8 1, .int .i64 t, .int .i64 n, .bool false, .int .i64 s, .bool false, .bool ok, .int .i64 (wait), .int .i64 (left)] wx)
  case first =>
    go_quiet ((go_at_call 78; exact Calls.quiet_of_same (rgreater_at HMS.out _)))
    go_wp2_with fail
    go_meet
    exact ⟨rfl, Row.drewN (((Row.new w _ [.int .u8 1, .int .i64 t, .int .i64 n, .bool false, .int .i64 s, .bool false, .bool ok, .int .i64 (wait), .int .i64 (left)]).alloc _).alloc _) _, Row.drewN ((Row.new2 w _ _ [.int .u8 0, .int .i64 0, .int .i64 0, .bool false, .int .i64 0, .bool false, .bool false, .int .i64 0, .int .i64 0] rfl).alloc _) _, Row.drewN (Row.new3 w _ _ _ [.int .u8 0, .int .i64 0, .int .u64 0, .int .u64 0, .bool false] rfl) _, Below.drewN' ((((Below.refl _ _).alloc (Nat.le_refl _) _).alloc (by simp) _).alloc (by simp; omega) _) _⟩
  case rest =>
    obtain ⟨rfl, hcut⟩ := hcut
    have HS := Lib.hid hcut
    obtain ⟨u0, u1, u2, u3, u4, u5, u6, u7, u8⟩ := hcut.u.nine
    have uf := hcut.u.free
    have ult := hcut.u.lt
    have rlt := hcut.rd.lt
    obtain ⟨e1, e2, e3⟩ := hcut.ne
    clear hcut
    go_wp2
    go_quiet ((go_at_call 78; exact Calls.quiet_of_same (rgreater_at HM.out _)))
    go_upto_region 21 with (fail)
    go_cut [7, 9, 10, 13] (fun s7 s9 s10 s12 wz => ∃ b0 b1 b2 g, s7 = .pointer (some ⟨b0, 0, none⟩) ∧ s9 = .pointer (some ⟨b1, 0, none⟩) ∧ s10 = .pointer (some ⟨b2, 0, none⟩) ∧ s12 = .pointer (some ⟨g, 0, none⟩) ∧ RetU w b0 b1 b2 g [.int .u8 1, .int .i64 t, .int .i64 n, .bool false, .int .i64 T, .bool true, .bool false, .int .i64 (m + P - t - D), .int .i64 (0)] [.int .u8 1, .int .i64 0, .int .u64 T, .int .u64 T, .bool true] wz)
    case first =>
      go_wp2_with (fail)
      go_meet
      exact ⟨_, _, _, _, rfl, rfl, rfl, rfl, Row.of_eq' (((((((HS.out.u.set 4 _).alloc _).drewN _).set 5 _).set 6 _).set 7 _).set 8 _) rfl, (((((((HS.out.ru.far (by (try simp); (try omega)) _).alloc _).drewN _).far (by (try simp); (try omega)) _).far (by (try simp); (try omega)) _).far (by (try simp); (try omega)) _).far (by (try simp); (try omega)) _), (((((((HS.out.rd.far (by (try simp); (try omega)) _).alloc _).drewN _).far (by (try simp); (try omega)) _).far (by (try simp); (try omega)) _).far (by (try simp); (try omega)) _).far (by (try simp); (try omega)) _), ((((((Row.last (l := [.int .u8 1, .int .i64 0, .int .u64 T, .int .u64 T, .bool true]) (by simp)).drewN _).far (by (try simp); (try omega)) _).far (by (try simp); (try omega)) _).far (by (try simp); (try omega)) _).far (by (try simp); (try omega)) _), (by (try simp); omega), (((((Below.drewN' ((HS.out.low.setCell (by (try simp); (try omega)) _).alloc (by have := HS.out.low.size; (try simp); (try omega)) _) _).setCell (by (try simp); (try omega)) _).setCell (by (try simp); (try omega)) _).setCell (by (try simp); (try omega)) _).setCell (by (try simp); (try omega)) _)⟩
    case rest =>
      obtain ⟨b0, b1, b2, g, rfl, rfl, rfl, rfl, hR⟩ := hcut
      have HU := Lib.hid hR.low
      have x0 := hR.u.lt
      have x1 := hR.ru.lt
      have x2 := hR.rd.lt
      have x3 := hR.did.lt
      obtain ⟨gt0, gt1, gt2, gt3⟩ := hR.gt
      have y01 : ¬ b0 = b1 := by omega
      have y02 : ¬ b0 = b2 := by omega
      have y03 : ¬ b0 = g := by omega
      have y10 : ¬ b1 = b0 := by omega
      have y12 : ¬ b1 = b2 := by omega
      have y13 : ¬ b1 = g := by omega
      have y20 : ¬ b2 = b0 := by omega
      have y21 : ¬ b2 = b1 := by omega
      have y23 : ¬ b2 = g := by omega
      have y30 : ¬ g = b0 := by omega
      have y31 : ¬ g = b1 := by omega
      have y32 : ¬ g = b2 := by omega
      obtain ⟨u0, u1, u2, u3, u4, u5, u6, u7, u8⟩ := hR.u.nine
      obtain ⟨q0, q1, q2, q3, q4, q5, q6, q7, q8⟩ := hR.ru.nine
      obtain ⟨z0, z1, z2, z3, z4⟩ := hR.rd.five
      obtain ⟨d0, d1, d2, d3, d4⟩ := hR.did.five
      have uf := hR.u.free
      have qf := hR.ru.free
      have zf := hR.rd.free
      have df := hR.did.free
      clear hR
      go_wp2
      go_region_held3 (fun w' => w'.cell? ⟨b0, 0, none⟩ = some (.int .u8 1) ∧ w'.cell? ⟨b0, 1, none⟩ = some (.int .i64 t) ∧ w'.cell? ⟨b0, 2, none⟩ = some (.int .i64 n) ∧ w'.cell? ⟨b0, 3, none⟩ = some (.bool false) ∧ w'.cell? ⟨b0, 4, none⟩ = some (.int .i64 T) ∧ w'.cell? ⟨b0, 5, none⟩ = some (.bool true) ∧ w'.cell? ⟨b0, 6, none⟩ = some (.bool false) ∧ w'.cell? ⟨b0, 7, none⟩ = some (.int .i64 (m + P - t - D)) ∧ w'.cell? ⟨b0, 8, none⟩ = some (.int .i64 (0)) ∧ w'.cell? ⟨g, 0, none⟩ = some (.int .u8 1) ∧ w'.cell? ⟨g, 1, none⟩ = some (.int .i64 0) ∧ w'.cell? ⟨g, 2, none⟩ = some (.int .u64 T) ∧ w'.cell? ⟨g, 3, none⟩ = some (.int .u64 T) ∧ w'.cell? ⟨g, 4, none⟩ = some (.bool true))
        (first | (with_reducible exact ⟨u0, u1, u2, u3, u4, u5, u6, u7, u8, d0, d1, d2, d3, d4⟩) | go_keep)
        (first | fail)
      all_goals
        go_wp2_with fail
        refine bodyPost_ret (v := .tuple #[.int .i64 (T), .agg #[.int .u8 1, .int .i64 t, .int .i64 n, .bool false, .int .i64 T, .bool true, .bool false, .int .i64 (m + P - t - D), .int .i64 (0)], .agg #[.int .u8 1, .int .i64 0, .int .u64 T, .int .u64 T, .bool true]]) (by simp [results, Try.results44, go_sem, q0, q1, q2, q3, q4, q5, q6, q7, q8, z0, z1, z2, z3, z4]) rfl ⟨rfl, ?_⟩
        repeat (first | (with_reducible exact HU.out) | (with_reducible refine Below.drew ?_) | (with_reducible refine Below.drewN' ?_ _) | refine Below.setCell ?_ (by (try simp); omega) _)
theorem rstep_never {ev bu T t n s m ms P D wait left : Int} {ok : Bool} (w : World) (hf : fitsB ev bu = true) (T0 : 0 ≤ T) (T1 : T ≤ 3458764513820540928) (s0 : 0 ≤ s) (s1 : s ≤ 3458764513820540928) (t0 : 0 ≤ t) (t1 : t ≤ 2305843009213693952) (hm : max T t = m) (hms : max s t = ms) (hP : n * ev = P) (P0 : 0 ≤ P) (P1 : P ≤ 1152921504606846976) (hD : bu * ev = D) (D0 : 0 ≤ D) (D1 : D ≤ 1152921504606846976) (hg : t + D < m + P) (hn : bu < n) :
    Calls Try.prog 44 #[.int .i64 ev, .int .i64 bu, .int .i64 T, .agg #[.int .u8 1, .int .i64 t, .int .i64 n, .bool false, .int .i64 s, .bool false, .bool ok, .int .i64 (wait), .int .i64 (left)]] w fun e w' => e = .returned (.tuple #[.int .i64 (T), .agg #[.int .u8 1, .int .i64 t, .int .i64 n, .bool false, .int .i64 T, .bool true, .bool false, .int .i64 (-1), .int .i64 (0)], .agg #[.int .u8 1, .int .i64 0, .int .u64 T, .int .u64 T, .bool true]]) ∧ Below w.heap.size w w' := by
  have hDD := And.intro D0 (And.intro D1 hD)
  clear hDD
  have HF := Lib.hid hf
  obtain ⟨a, b, c, d⟩ := fits_bounds hf
  have HM := Lib.hid hm
  have HMS := Lib.hid hms
  have m0 : 0 ≤ m := by omega
  have m1 : m ≤ 3458764513820540928 := by omega
  have g0 : 0 ≤ ms := by omega
  have g1 : ms ≤ 3458764513820540928 := by omega
  clear hf hm hms
  go_enter Try.func44, Try.ntmps44
  go_upto_region 1 with (fail)
  go_cut [11] (fun s11 wx => s11 = .int .i64 (ms + P) ∧ StartU w [.int .u8 1, .int .i64 t, .int .i64 n, .bool false, .int .i64 s, .bool false, .bool ok, .int .i64 (wait), .int .i64 (left)] wx)
  case first =>
    go_quiet ((go_at_call 78; exact Calls.quiet_of_same (rgreater_at HMS.out _)))
    go_wp2_with fail
    go_meet
    exact ⟨rfl, Row.drewN (((Row.new w _ [.int .u8 1, .int .i64 t, .int .i64 n, .bool false, .int .i64 s, .bool false, .bool ok, .int .i64 (wait), .int .i64 (left)]).alloc _).alloc _) _, Row.drewN ((Row.new2 w _ _ [.int .u8 0, .int .i64 0, .int .i64 0, .bool false, .int .i64 0, .bool false, .bool false, .int .i64 0, .int .i64 0] rfl).alloc _) _, Row.drewN (Row.new3 w _ _ _ [.int .u8 0, .int .i64 0, .int .u64 0, .int .u64 0, .bool false] rfl) _, Below.drewN' ((((Below.refl _ _).alloc (Nat.le_refl _) _).alloc (by simp) _).alloc (by simp; omega) _) _⟩
  case rest =>
    obtain ⟨rfl, hcut⟩ := hcut
    have HS := Lib.hid hcut
    obtain ⟨u0, u1, u2, u3, u4, u5, u6, u7, u8⟩ := hcut.u.nine
    have uf := hcut.u.free
    have ult := hcut.u.lt
    have rlt := hcut.rd.lt
    obtain ⟨e1, e2, e3⟩ := hcut.ne
    clear hcut
    go_wp2
    go_quiet ((go_at_call 78; exact Calls.quiet_of_same (rgreater_at HM.out _)))
    go_upto_region 23 with (fail)
    go_cut [7, 9, 10, 13] (fun s7 s9 s10 s12 wz => ∃ b0 b1 b2 g, s7 = .pointer (some ⟨b0, 0, none⟩) ∧ s9 = .pointer (some ⟨b1, 0, none⟩) ∧ s10 = .pointer (some ⟨b2, 0, none⟩) ∧ s12 = .pointer (some ⟨g, 0, none⟩) ∧ RetU w b0 b1 b2 g [.int .u8 1, .int .i64 t, .int .i64 n, .bool false, .int .i64 T, .bool true, .bool false, .int .i64 (-1), .int .i64 (0)] [.int .u8 1, .int .i64 0, .int .u64 T, .int .u64 T, .bool true] wz)
    case first =>
      go_wp2_with (fail)
      go_meet
      exact ⟨_, _, _, _, rfl, rfl, rfl, rfl, Row.of_eq' ((((((((HS.out.u.set 4 _).alloc _).drewN _).set 5 _).set 6 _).set 7 _).set 8 _).set 7 _) rfl, ((((((((HS.out.ru.far (by (try simp); (try omega)) _).alloc _).drewN _).far (by (try simp); (try omega)) _).far (by (try simp); (try omega)) _).far (by (try simp); (try omega)) _).far (by (try simp); (try omega)) _).far (by (try simp); (try omega)) _), ((((((((HS.out.rd.far (by (try simp); (try omega)) _).alloc _).drewN _).far (by (try simp); (try omega)) _).far (by (try simp); (try omega)) _).far (by (try simp); (try omega)) _).far (by (try simp); (try omega)) _).far (by (try simp); (try omega)) _), (((((((Row.last (l := [.int .u8 1, .int .i64 0, .int .u64 T, .int .u64 T, .bool true]) (by simp)).drewN _).far (by (try simp); (try omega)) _).far (by (try simp); (try omega)) _).far (by (try simp); (try omega)) _).far (by (try simp); (try omega)) _).far (by (try simp); (try omega)) _), (by (try simp); omega), ((((((Below.drewN' ((HS.out.low.setCell (by (try simp); (try omega)) _).alloc (by have := HS.out.low.size; (try simp); (try omega)) _) _).setCell (by (try simp); (try omega)) _).setCell (by (try simp); (try omega)) _).setCell (by (try simp); (try omega)) _).setCell (by (try simp); (try omega)) _).setCell (by (try simp); (try omega)) _)⟩
    case rest =>
      obtain ⟨b0, b1, b2, g, rfl, rfl, rfl, rfl, hR⟩ := hcut
      have HU := Lib.hid hR.low
      have x0 := hR.u.lt
      have x1 := hR.ru.lt
      have x2 := hR.rd.lt
      have x3 := hR.did.lt
      obtain ⟨gt0, gt1, gt2, gt3⟩ := hR.gt
      have y01 : ¬ b0 = b1 := by omega
      have y02 : ¬ b0 = b2 := by omega
      have y03 : ¬ b0 = g := by omega
      have y10 : ¬ b1 = b0 := by omega
      have y12 : ¬ b1 = b2 := by omega
      have y13 : ¬ b1 = g := by omega
      have y20 : ¬ b2 = b0 := by omega
      have y21 : ¬ b2 = b1 := by omega
      have y23 : ¬ b2 = g := by omega
      have y30 : ¬ g = b0 := by omega
      have y31 : ¬ g = b1 := by omega
      have y32 : ¬ g = b2 := by omega
      obtain ⟨u0, u1, u2, u3, u4, u5, u6, u7, u8⟩ := hR.u.nine
      obtain ⟨q0, q1, q2, q3, q4, q5, q6, q7, q8⟩ := hR.ru.nine
      obtain ⟨z0, z1, z2, z3, z4⟩ := hR.rd.five
      obtain ⟨d0, d1, d2, d3, d4⟩ := hR.did.five
      have uf := hR.u.free
      have qf := hR.ru.free
      have zf := hR.rd.free
      have df := hR.did.free
      clear hR
      go_wp2
      go_region_held3 (fun w' => w'.cell? ⟨b0, 0, none⟩ = some (.int .u8 1) ∧ w'.cell? ⟨b0, 1, none⟩ = some (.int .i64 t) ∧ w'.cell? ⟨b0, 2, none⟩ = some (.int .i64 n) ∧ w'.cell? ⟨b0, 3, none⟩ = some (.bool false) ∧ w'.cell? ⟨b0, 4, none⟩ = some (.int .i64 T) ∧ w'.cell? ⟨b0, 5, none⟩ = some (.bool true) ∧ w'.cell? ⟨b0, 6, none⟩ = some (.bool false) ∧ w'.cell? ⟨b0, 7, none⟩ = some (.int .i64 (-1)) ∧ w'.cell? ⟨b0, 8, none⟩ = some (.int .i64 (0)) ∧ w'.cell? ⟨g, 0, none⟩ = some (.int .u8 1) ∧ w'.cell? ⟨g, 1, none⟩ = some (.int .i64 0) ∧ w'.cell? ⟨g, 2, none⟩ = some (.int .u64 T) ∧ w'.cell? ⟨g, 3, none⟩ = some (.int .u64 T) ∧ w'.cell? ⟨g, 4, none⟩ = some (.bool true))
        (first | (with_reducible exact ⟨u0, u1, u2, u3, u4, u5, u6, u7, u8, d0, d1, d2, d3, d4⟩) | go_keep)
        (first | fail)
      all_goals
        go_wp2_with fail
        refine bodyPost_ret (v := .tuple #[.int .i64 (T), .agg #[.int .u8 1, .int .i64 t, .int .i64 n, .bool false, .int .i64 T, .bool true, .bool false, .int .i64 (-1), .int .i64 (0)], .agg #[.int .u8 1, .int .i64 0, .int .u64 T, .int .u64 T, .bool true]]) (by simp [results, Try.results44, go_sem, q0, q1, q2, q3, q4, q5, q6, q7, q8, z0, z1, z2, z3, z4]) rfl ⟨rfl, ?_⟩
        repeat (first | (with_reducible exact HU.out) | (with_reducible refine Below.drew ?_) | (with_reducible refine Below.drewN' ?_ _) | refine Below.setCell ?_ (by (try simp); omega) _)
end Go.Proofs.Ytcocegneegjcpaa
