/- THE WALKS of the document's semaphore: steps by kind and place. -/
import Derived.Test.YtamigipljgijlaaNo
namespace Go.Proofs.Ytamigipljgijlaa
open Go Go.RowKit
set_option maxRecDepth 100000
set_option maxHeartbeats 6400000
theorem rtry2m {pl d g k fi la su wy : Int} (hf : (d != la) = true) (w : World) :
    Calls Try.prog 29 #[.agg #[.int .u64 pl, .int .u64 d, .int .u64 g], .agg #[.int .u8 k, .int .i64 2, .int .u64 fi, .int .u64 la, .bool false, .int .u64 su, .int .i64 wy]] w fun e w' => e = .returned (.tuple #[.agg #[.int .u64 pl, .int .u64 d, .int .u64 g], .agg #[.int .u8 k, .int .i64 0, .int .u64 fi, .int .u64 la, .bool false, .int .u64 su, .int .i64 wy], .agg #[.int .u8 5, .int .i64 0, .int .u64 d, .int .u64 d, .bool false]]) ∧ Below w.heap.size w w' := by
  have HB := Lib.hid (stpS_begin w [.int .u64 pl, .int .u64 d, .int .u64 g] [.int .u8 k, .int .i64 2, .int .u64 fi, .int .u64 la, .bool false, .int .u64 su, .int .i64 wy])
  go_enter Try.func29, Try.ntmps29
  go_upto_region 1 with fail
  go_cut [9] (fun s9 wx => s9 = .int .i64 2 ∧ ∃ b0 b1 b2 b3 b4, b0 = w.heap.size ∧ b1 = w.heap.size + 1 ∧ b2 = w.heap.size + 1 + 1 ∧ b3 = w.heap.size + 1 + 1 + 1 ∧ b4 = w.heap.size + 1 + 1 + 1 + 1 ∧ StpS w b0 b1 b2 b3 b4 [.int .u64 pl, .int .u64 d, .int .u64 g] [.int .u8 k, .int .i64 2, .int .u64 fi, .int .u64 la, .bool false, .int .u64 su, .int .i64 wy] wx)
  case first =>
    go_wp2
    go_meet
    exact ⟨rfl, _, _, _, _, _, rfl, rfl, rfl, rfl, rfl, HB.out⟩
  case rest =>
    obtain ⟨rfl, b0, b1, b2, b3, b4, hb0, hb1, hb2, hb3, hb4, hP⟩ := hcut
    rw [← hb4, ← hb3, ← hb2, ← hb1, ← hb0]
    have HR := Lib.hid hP
    obtain ⟨gt0, gt1, gt2, gt3, gt4⟩ := hP.gt
    have x0 := hP.r.lt
    have x1 := hP.u.lt
    have x2 := hP.rr.lt
    have x3 := hP.ru.lt
    have x4 := hP.rd.lt
    have y01 : ¬ b0 = b1 := by omega
    have y02 : ¬ b0 = b2 := by omega
    have y03 : ¬ b0 = b3 := by omega
    have y04 : ¬ b0 = b4 := by omega
    have y10 : ¬ b1 = b0 := by omega
    have y12 : ¬ b1 = b2 := by omega
    have y13 : ¬ b1 = b3 := by omega
    have y14 : ¬ b1 = b4 := by omega
    have y20 : ¬ b2 = b0 := by omega
    have y21 : ¬ b2 = b1 := by omega
    have y23 : ¬ b2 = b3 := by omega
    have y24 : ¬ b2 = b4 := by omega
    have y30 : ¬ b3 = b0 := by omega
    have y31 : ¬ b3 = b1 := by omega
    have y32 : ¬ b3 = b2 := by omega
    have y34 : ¬ b3 = b4 := by omega
    have y40 : ¬ b4 = b0 := by omega
    have y41 : ¬ b4 = b1 := by omega
    have y42 : ¬ b4 = b2 := by omega
    have y43 : ¬ b4 = b3 := by omega
    obtain ⟨w0, w1, w2⟩ := hP.r.three3
    obtain ⟨v0, v1, v2, v3, v4, v5, v6⟩ := hP.u.seven
    obtain ⟨r0, r1, r2⟩ := hP.rr.three3
    obtain ⟨q0, q1, q2, q3, q4, q5, q6⟩ := hP.ru.seven
    obtain ⟨z0, z1, z2, z3, z4⟩ := hP.rd.five6
    have wf := hP.r.free
    have uf := hP.u.free
    have rf := hP.rr.free
    have qf := hP.ru.free
    have zf := hP.rd.free
    clear hP hb0 hb1 hb2 hb3 hb4
    go_upto_region 15 with fail
    go_cut [] (fun wx => Row wx b2 31 [.int .u64 pl, .int .u64 d, .int .u64 g] ∧ Row wx b3 40 [.int .u8 k, .int .i64 0, .int .u64 fi, .int .u64 la, .bool false, .int .u64 su, .int .i64 wy] ∧ Row wx b4 45 [.int .u8 5, .int .i64 0, .int .u64 d, .int .u64 d, .bool false] ∧ Below w.heap.size w wx)
    case first =>

      go_region
      all_goals
        go_wp2_with fail
        go_meet
        refine ⟨?_, ?_, ?_, ?_⟩
        · exact Row.of_eq (Row.drew (Row.far (Row.far (Row.far (Row.far (Row.far (Row.far (Row.far (Row.far (Row.far (Row.far (Row.far (Row.far (Row.set (Row.set (Row.set (Row.far HR.out.rr (p := ⟨b1, 1, none⟩) y12 _) 0 _) 1 _) 2 _) (p := ⟨b3, 0, none⟩) y32 _) (p := ⟨b3, 1, none⟩) y32 _) (p := ⟨b3, 2, none⟩) y32 _) (p := ⟨b3, 3, none⟩) y32 _) (p := ⟨b3, 4, none⟩) y32 _) (p := ⟨b3, 5, none⟩) y32 _) (p := ⟨b3, 6, none⟩) y32 _) (p := ⟨b4, 0, none⟩) y42 _) (p := ⟨b4, 1, none⟩) y42 _) (p := ⟨b4, 2, none⟩) y42 _) (p := ⟨b4, 3, none⟩) y42 _) (p := ⟨b4, 4, none⟩) y42 _)) rfl
        · exact Row.of_eq (Row.drew (Row.far (Row.far (Row.far (Row.far (Row.far (Row.set (Row.set (Row.set (Row.set (Row.set (Row.set (Row.set (Row.far (Row.far (Row.far (Row.far HR.out.ru (p := ⟨b1, 1, none⟩) y13 _) (p := ⟨b2, 0, none⟩) y23 _) (p := ⟨b2, 1, none⟩) y23 _) (p := ⟨b2, 2, none⟩) y23 _) 0 _) 1 _) 2 _) 3 _) 4 _) 5 _) 6 _) (p := ⟨b4, 0, none⟩) y43 _) (p := ⟨b4, 1, none⟩) y43 _) (p := ⟨b4, 2, none⟩) y43 _) (p := ⟨b4, 3, none⟩) y43 _) (p := ⟨b4, 4, none⟩) y43 _)) rfl
        · exact Row.of_eq (Row.drew (Row.set (Row.set (Row.set (Row.set (Row.set (Row.far (Row.far (Row.far (Row.far (Row.far (Row.far (Row.far (Row.far (Row.far (Row.far (Row.far HR.out.rd (p := ⟨b1, 1, none⟩) y14 _) (p := ⟨b2, 0, none⟩) y24 _) (p := ⟨b2, 1, none⟩) y24 _) (p := ⟨b2, 2, none⟩) y24 _) (p := ⟨b3, 0, none⟩) y34 _) (p := ⟨b3, 1, none⟩) y34 _) (p := ⟨b3, 2, none⟩) y34 _) (p := ⟨b3, 3, none⟩) y34 _) (p := ⟨b3, 4, none⟩) y34 _) (p := ⟨b3, 5, none⟩) y34 _) (p := ⟨b3, 6, none⟩) y34 _) 0 _) 1 _) 2 _) 3 _) 4 _)) rfl
        · repeat (first | (with_reducible exact HR.out.low) | (with_reducible refine Below.drew ?_) | (with_reducible refine Below.draws ?_ _) | (with_reducible refine Below.alloc ?_ (by (try simp); omega) _) | (with_reducible refine Below.setCell ?_ (by (try simp); omega) _))
    case rest =>
      obtain ⟨h2, h3, h4, hb⟩ := hcut
      clear r0 r1 r2 q0 q1 q2 q3 q4 q5 q6 z0 z1 z2 z3 z4
      obtain ⟨r0, r1, r2⟩ := h2.three3
      obtain ⟨q0, q1, q2, q3, q4, q5, q6⟩ := h3.seven
      obtain ⟨z0, z1, z2, z3, z4⟩ := h4.five6
      go_wp2
      refine bodyPost_ret (v := .tuple #[.agg #[.int .u64 pl, .int .u64 d, .int .u64 g], .agg #[.int .u8 k, .int .i64 0, .int .u64 fi, .int .u64 la, .bool false, .int .u64 su, .int .i64 wy], .agg #[.int .u8 5, .int .i64 0, .int .u64 d, .int .u64 d, .bool false]]) (by simp [results, Try.results29, go_sem, r0, r1, r2, q0, q1, q2, q3, q4, q5, q6, z0, z1, z2, z3, z4]) rfl ⟨rfl, hb⟩
theorem rtry2h {pl d g k fi su wy : Int} (w : World) :
    Calls Try.prog 29 #[.agg #[.int .u64 pl, .int .u64 d, .int .u64 g], .agg #[.int .u8 k, .int .i64 2, .int .u64 fi, .int .u64 d, .bool false, .int .u64 su, .int .i64 wy]] w fun e w' => e = .returned (.tuple #[.agg #[.int .u64 pl, .int .u64 (up d), .int .u64 g], .agg #[.int .u8 k, .int .i64 0, .int .u64 fi, .int .u64 d, .bool true, .int .u64 d, .int .i64 wy], .agg #[.int .u8 5, .int .i64 0, .int .u64 d, .int .u64 (up d), .bool true]]) ∧ Below w.heap.size w w' := by
  have HB := Lib.hid (stpS_begin w [.int .u64 pl, .int .u64 d, .int .u64 g] [.int .u8 k, .int .i64 2, .int .u64 fi, .int .u64 d, .bool false, .int .u64 su, .int .i64 wy])
  go_enter Try.func29, Try.ntmps29
  go_upto_region 1 with fail
  go_cut [9] (fun s9 wx => s9 = .int .i64 2 ∧ ∃ b0 b1 b2 b3 b4, b0 = w.heap.size ∧ b1 = w.heap.size + 1 ∧ b2 = w.heap.size + 1 + 1 ∧ b3 = w.heap.size + 1 + 1 + 1 ∧ b4 = w.heap.size + 1 + 1 + 1 + 1 ∧ StpS w b0 b1 b2 b3 b4 [.int .u64 pl, .int .u64 d, .int .u64 g] [.int .u8 k, .int .i64 2, .int .u64 fi, .int .u64 d, .bool false, .int .u64 su, .int .i64 wy] wx)
  case first =>
    go_wp2
    go_meet
    exact ⟨rfl, _, _, _, _, _, rfl, rfl, rfl, rfl, rfl, HB.out⟩
  case rest =>
    obtain ⟨rfl, b0, b1, b2, b3, b4, hb0, hb1, hb2, hb3, hb4, hP⟩ := hcut
    rw [← hb4, ← hb3, ← hb2, ← hb1, ← hb0]
    have HR := Lib.hid hP
    obtain ⟨gt0, gt1, gt2, gt3, gt4⟩ := hP.gt
    have x0 := hP.r.lt
    have x1 := hP.u.lt
    have x2 := hP.rr.lt
    have x3 := hP.ru.lt
    have x4 := hP.rd.lt
    have y01 : ¬ b0 = b1 := by omega
    have y02 : ¬ b0 = b2 := by omega
    have y03 : ¬ b0 = b3 := by omega
    have y04 : ¬ b0 = b4 := by omega
    have y10 : ¬ b1 = b0 := by omega
    have y12 : ¬ b1 = b2 := by omega
    have y13 : ¬ b1 = b3 := by omega
    have y14 : ¬ b1 = b4 := by omega
    have y20 : ¬ b2 = b0 := by omega
    have y21 : ¬ b2 = b1 := by omega
    have y23 : ¬ b2 = b3 := by omega
    have y24 : ¬ b2 = b4 := by omega
    have y30 : ¬ b3 = b0 := by omega
    have y31 : ¬ b3 = b1 := by omega
    have y32 : ¬ b3 = b2 := by omega
    have y34 : ¬ b3 = b4 := by omega
    have y40 : ¬ b4 = b0 := by omega
    have y41 : ¬ b4 = b1 := by omega
    have y42 : ¬ b4 = b2 := by omega
    have y43 : ¬ b4 = b3 := by omega
    obtain ⟨w0, w1, w2⟩ := hP.r.three3
    obtain ⟨v0, v1, v2, v3, v4, v5, v6⟩ := hP.u.seven
    obtain ⟨r0, r1, r2⟩ := hP.rr.three3
    obtain ⟨q0, q1, q2, q3, q4, q5, q6⟩ := hP.ru.seven
    obtain ⟨z0, z1, z2, z3, z4⟩ := hP.rd.five6
    have wf := hP.r.free
    have uf := hP.u.free
    have rf := hP.rr.free
    have qf := hP.ru.free
    have zf := hP.rd.free
    clear hP hb0 hb1 hb2 hb3 hb4
    go_upto_region 20 with fail
    go_cut [] (fun wx => Row wx b2 31 [.int .u64 pl, .int .u64 (up d), .int .u64 g] ∧ Row wx b3 40 [.int .u8 k, .int .i64 0, .int .u64 fi, .int .u64 d, .bool true, .int .u64 d, .int .i64 wy] ∧ Row wx b4 45 [.int .u8 5, .int .i64 0, .int .u64 d, .int .u64 (up d), .bool true] ∧ Below w.heap.size w wx)
    case first =>

      go_region
      all_goals
        go_wp2_with fail
        go_meet
        refine ⟨?_, ?_, ?_, ?_⟩
        · exact Row.of_eq (Row.drew (Row.alloc (Row.far (Row.far (Row.far (Row.far (Row.far (Row.far (Row.far (Row.far (Row.far (Row.far (Row.far (Row.far (Row.set (Row.set (Row.set (Row.far (Row.far (Row.far (Row.far HR.out.rr (p := ⟨b1, 1, none⟩) y12 _) (p := ⟨b1, 4, none⟩) y12 _) (p := ⟨b1, 5, none⟩) y12 _) (p := ⟨b0, 1, none⟩) y02 _) 0 _) 1 _) 2 _) (p := ⟨b3, 0, none⟩) y32 _) (p := ⟨b3, 1, none⟩) y32 _) (p := ⟨b3, 2, none⟩) y32 _) (p := ⟨b3, 3, none⟩) y32 _) (p := ⟨b3, 4, none⟩) y32 _) (p := ⟨b3, 5, none⟩) y32 _) (p := ⟨b3, 6, none⟩) y32 _) (p := ⟨b4, 0, none⟩) y42 _) (p := ⟨b4, 1, none⟩) y42 _) (p := ⟨b4, 2, none⟩) y42 _) (p := ⟨b4, 3, none⟩) y42 _) (p := ⟨b4, 4, none⟩) y42 _) _)) rfl
        · exact Row.of_eq (Row.drew (Row.alloc (Row.far (Row.far (Row.far (Row.far (Row.far (Row.set (Row.set (Row.set (Row.set (Row.set (Row.set (Row.set (Row.far (Row.far (Row.far (Row.far (Row.far (Row.far (Row.far HR.out.ru (p := ⟨b1, 1, none⟩) y13 _) (p := ⟨b1, 4, none⟩) y13 _) (p := ⟨b1, 5, none⟩) y13 _) (p := ⟨b0, 1, none⟩) y03 _) (p := ⟨b2, 0, none⟩) y23 _) (p := ⟨b2, 1, none⟩) y23 _) (p := ⟨b2, 2, none⟩) y23 _) 0 _) 1 _) 2 _) 3 _) 4 _) 5 _) 6 _) (p := ⟨b4, 0, none⟩) y43 _) (p := ⟨b4, 1, none⟩) y43 _) (p := ⟨b4, 2, none⟩) y43 _) (p := ⟨b4, 3, none⟩) y43 _) (p := ⟨b4, 4, none⟩) y43 _) _)) rfl
        · exact Row.of_eq (Row.drew (Row.alloc (Row.set (Row.set (Row.set (Row.set (Row.set (Row.far (Row.far (Row.far (Row.far (Row.far (Row.far (Row.far (Row.far (Row.far (Row.far (Row.far (Row.far (Row.far (Row.far HR.out.rd (p := ⟨b1, 1, none⟩) y14 _) (p := ⟨b1, 4, none⟩) y14 _) (p := ⟨b1, 5, none⟩) y14 _) (p := ⟨b0, 1, none⟩) y04 _) (p := ⟨b2, 0, none⟩) y24 _) (p := ⟨b2, 1, none⟩) y24 _) (p := ⟨b2, 2, none⟩) y24 _) (p := ⟨b3, 0, none⟩) y34 _) (p := ⟨b3, 1, none⟩) y34 _) (p := ⟨b3, 2, none⟩) y34 _) (p := ⟨b3, 3, none⟩) y34 _) (p := ⟨b3, 4, none⟩) y34 _) (p := ⟨b3, 5, none⟩) y34 _) (p := ⟨b3, 6, none⟩) y34 _) 0 _) 1 _) 2 _) 3 _) 4 _) _)) rfl
        · repeat (first | (with_reducible exact HR.out.low) | (with_reducible refine Below.drew ?_) | (with_reducible refine Below.draws ?_ _) | (with_reducible refine Below.alloc ?_ (by (try simp); omega) _) | (with_reducible refine Below.setCell ?_ (by (try simp); omega) _))
    case rest =>
      obtain ⟨h2, h3, h4, hb⟩ := hcut
      clear r0 r1 r2 q0 q1 q2 q3 q4 q5 q6 z0 z1 z2 z3 z4
      obtain ⟨r0, r1, r2⟩ := h2.three3
      obtain ⟨q0, q1, q2, q3, q4, q5, q6⟩ := h3.seven
      obtain ⟨z0, z1, z2, z3, z4⟩ := h4.five6
      go_wp2
      refine bodyPost_ret (v := .tuple #[.agg #[.int .u64 pl, .int .u64 (up d), .int .u64 g], .agg #[.int .u8 k, .int .i64 0, .int .u64 fi, .int .u64 d, .bool true, .int .u64 d, .int .i64 wy], .agg #[.int .u8 5, .int .i64 0, .int .u64 d, .int .u64 (up d), .bool true]]) (by simp [results, Try.results29, go_sem, r0, r1, r2, q0, q1, q2, q3, q4, q5, q6, z0, z1, z2, z3, z4]) rfl ⟨rfl, hb⟩
theorem rleave2m {pl d g k fi la su wy : Int} (hf : (g != la) = true) (w : World) :
    Calls Try.prog 30 #[.agg #[.int .u64 pl, .int .u64 d, .int .u64 g], .agg #[.int .u8 k, .int .i64 2, .int .u64 fi, .int .u64 la, .bool false, .int .u64 su, .int .i64 wy]] w fun e w' => e = .returned (.tuple #[.agg #[.int .u64 pl, .int .u64 d, .int .u64 g], .agg #[.int .u8 k, .int .i64 0, .int .u64 fi, .int .u64 la, .bool false, .int .u64 su, .int .i64 wy], .agg #[.int .u8 5, .int .i64 1, .int .u64 g, .int .u64 g, .bool false]]) ∧ Below w.heap.size w w' := by
  have HB := Lib.hid (stpS_begin w [.int .u64 pl, .int .u64 d, .int .u64 g] [.int .u8 k, .int .i64 2, .int .u64 fi, .int .u64 la, .bool false, .int .u64 su, .int .i64 wy])
  go_enter Try.func30, Try.ntmps30
  go_upto_region 1 with fail
  go_cut [9] (fun s9 wx => s9 = .int .i64 2 ∧ ∃ b0 b1 b2 b3 b4, b0 = w.heap.size ∧ b1 = w.heap.size + 1 ∧ b2 = w.heap.size + 1 + 1 ∧ b3 = w.heap.size + 1 + 1 + 1 ∧ b4 = w.heap.size + 1 + 1 + 1 + 1 ∧ StpS w b0 b1 b2 b3 b4 [.int .u64 pl, .int .u64 d, .int .u64 g] [.int .u8 k, .int .i64 2, .int .u64 fi, .int .u64 la, .bool false, .int .u64 su, .int .i64 wy] wx)
  case first =>
    go_wp2
    go_meet
    exact ⟨rfl, _, _, _, _, _, rfl, rfl, rfl, rfl, rfl, HB.out⟩
  case rest =>
    obtain ⟨rfl, b0, b1, b2, b3, b4, hb0, hb1, hb2, hb3, hb4, hP⟩ := hcut
    rw [← hb4, ← hb3, ← hb2, ← hb1, ← hb0]
    have HR := Lib.hid hP
    obtain ⟨gt0, gt1, gt2, gt3, gt4⟩ := hP.gt
    have x0 := hP.r.lt
    have x1 := hP.u.lt
    have x2 := hP.rr.lt
    have x3 := hP.ru.lt
    have x4 := hP.rd.lt
    have y01 : ¬ b0 = b1 := by omega
    have y02 : ¬ b0 = b2 := by omega
    have y03 : ¬ b0 = b3 := by omega
    have y04 : ¬ b0 = b4 := by omega
    have y10 : ¬ b1 = b0 := by omega
    have y12 : ¬ b1 = b2 := by omega
    have y13 : ¬ b1 = b3 := by omega
    have y14 : ¬ b1 = b4 := by omega
    have y20 : ¬ b2 = b0 := by omega
    have y21 : ¬ b2 = b1 := by omega
    have y23 : ¬ b2 = b3 := by omega
    have y24 : ¬ b2 = b4 := by omega
    have y30 : ¬ b3 = b0 := by omega
    have y31 : ¬ b3 = b1 := by omega
    have y32 : ¬ b3 = b2 := by omega
    have y34 : ¬ b3 = b4 := by omega
    have y40 : ¬ b4 = b0 := by omega
    have y41 : ¬ b4 = b1 := by omega
    have y42 : ¬ b4 = b2 := by omega
    have y43 : ¬ b4 = b3 := by omega
    obtain ⟨w0, w1, w2⟩ := hP.r.three3
    obtain ⟨v0, v1, v2, v3, v4, v5, v6⟩ := hP.u.seven
    obtain ⟨r0, r1, r2⟩ := hP.rr.three3
    obtain ⟨q0, q1, q2, q3, q4, q5, q6⟩ := hP.ru.seven
    obtain ⟨z0, z1, z2, z3, z4⟩ := hP.rd.five6
    have wf := hP.r.free
    have uf := hP.u.free
    have rf := hP.rr.free
    have qf := hP.ru.free
    have zf := hP.rd.free
    clear hP hb0 hb1 hb2 hb3 hb4
    go_upto_region 14 with fail
    go_cut [] (fun wx => Row wx b2 31 [.int .u64 pl, .int .u64 d, .int .u64 g] ∧ Row wx b3 40 [.int .u8 k, .int .i64 0, .int .u64 fi, .int .u64 la, .bool false, .int .u64 su, .int .i64 wy] ∧ Row wx b4 45 [.int .u8 5, .int .i64 1, .int .u64 g, .int .u64 g, .bool false] ∧ Below w.heap.size w wx)
    case first =>

      go_region
      all_goals
        go_wp2_with fail
        go_meet
        refine ⟨?_, ?_, ?_, ?_⟩
        · exact Row.of_eq (Row.drew (Row.far (Row.far (Row.far (Row.far (Row.far (Row.far (Row.far (Row.far (Row.far (Row.far (Row.far (Row.far (Row.set (Row.set (Row.set (Row.far HR.out.rr (p := ⟨b1, 1, none⟩) y12 _) 0 _) 1 _) 2 _) (p := ⟨b3, 0, none⟩) y32 _) (p := ⟨b3, 1, none⟩) y32 _) (p := ⟨b3, 2, none⟩) y32 _) (p := ⟨b3, 3, none⟩) y32 _) (p := ⟨b3, 4, none⟩) y32 _) (p := ⟨b3, 5, none⟩) y32 _) (p := ⟨b3, 6, none⟩) y32 _) (p := ⟨b4, 0, none⟩) y42 _) (p := ⟨b4, 1, none⟩) y42 _) (p := ⟨b4, 2, none⟩) y42 _) (p := ⟨b4, 3, none⟩) y42 _) (p := ⟨b4, 4, none⟩) y42 _)) rfl
        · exact Row.of_eq (Row.drew (Row.far (Row.far (Row.far (Row.far (Row.far (Row.set (Row.set (Row.set (Row.set (Row.set (Row.set (Row.set (Row.far (Row.far (Row.far (Row.far HR.out.ru (p := ⟨b1, 1, none⟩) y13 _) (p := ⟨b2, 0, none⟩) y23 _) (p := ⟨b2, 1, none⟩) y23 _) (p := ⟨b2, 2, none⟩) y23 _) 0 _) 1 _) 2 _) 3 _) 4 _) 5 _) 6 _) (p := ⟨b4, 0, none⟩) y43 _) (p := ⟨b4, 1, none⟩) y43 _) (p := ⟨b4, 2, none⟩) y43 _) (p := ⟨b4, 3, none⟩) y43 _) (p := ⟨b4, 4, none⟩) y43 _)) rfl
        · exact Row.of_eq (Row.drew (Row.set (Row.set (Row.set (Row.set (Row.set (Row.far (Row.far (Row.far (Row.far (Row.far (Row.far (Row.far (Row.far (Row.far (Row.far (Row.far HR.out.rd (p := ⟨b1, 1, none⟩) y14 _) (p := ⟨b2, 0, none⟩) y24 _) (p := ⟨b2, 1, none⟩) y24 _) (p := ⟨b2, 2, none⟩) y24 _) (p := ⟨b3, 0, none⟩) y34 _) (p := ⟨b3, 1, none⟩) y34 _) (p := ⟨b3, 2, none⟩) y34 _) (p := ⟨b3, 3, none⟩) y34 _) (p := ⟨b3, 4, none⟩) y34 _) (p := ⟨b3, 5, none⟩) y34 _) (p := ⟨b3, 6, none⟩) y34 _) 0 _) 1 _) 2 _) 3 _) 4 _)) rfl
        · repeat (first | (with_reducible exact HR.out.low) | (with_reducible refine Below.drew ?_) | (with_reducible refine Below.draws ?_ _) | (with_reducible refine Below.alloc ?_ (by (try simp); omega) _) | (with_reducible refine Below.setCell ?_ (by (try simp); omega) _))
    case rest =>
      obtain ⟨h2, h3, h4, hb⟩ := hcut
      clear r0 r1 r2 q0 q1 q2 q3 q4 q5 q6 z0 z1 z2 z3 z4
      obtain ⟨r0, r1, r2⟩ := h2.three3
      obtain ⟨q0, q1, q2, q3, q4, q5, q6⟩ := h3.seven
      obtain ⟨z0, z1, z2, z3, z4⟩ := h4.five6
      go_wp2
      refine bodyPost_ret (v := .tuple #[.agg #[.int .u64 pl, .int .u64 d, .int .u64 g], .agg #[.int .u8 k, .int .i64 0, .int .u64 fi, .int .u64 la, .bool false, .int .u64 su, .int .i64 wy], .agg #[.int .u8 5, .int .i64 1, .int .u64 g, .int .u64 g, .bool false]]) (by simp [results, Try.results30, go_sem, r0, r1, r2, q0, q1, q2, q3, q4, q5, q6, z0, z1, z2, z3, z4]) rfl ⟨rfl, hb⟩
theorem rleave2h {pl d g k fi su wy : Int} (w : World) :
    Calls Try.prog 30 #[.agg #[.int .u64 pl, .int .u64 d, .int .u64 g], .agg #[.int .u8 k, .int .i64 2, .int .u64 fi, .int .u64 g, .bool false, .int .u64 su, .int .i64 wy]] w fun e w' => e = .returned (.tuple #[.agg #[.int .u64 pl, .int .u64 d, .int .u64 (up g)], .agg #[.int .u8 k, .int .i64 0, .int .u64 fi, .int .u64 g, .bool true, .int .u64 (up g), .int .i64 wy], .agg #[.int .u8 5, .int .i64 1, .int .u64 g, .int .u64 (up g), .bool true]]) ∧ Below w.heap.size w w' := by
  have HB := Lib.hid (stpS_begin w [.int .u64 pl, .int .u64 d, .int .u64 g] [.int .u8 k, .int .i64 2, .int .u64 fi, .int .u64 g, .bool false, .int .u64 su, .int .i64 wy])
  go_enter Try.func30, Try.ntmps30
  go_upto_region 1 with fail
  go_cut [9] (fun s9 wx => s9 = .int .i64 2 ∧ ∃ b0 b1 b2 b3 b4, b0 = w.heap.size ∧ b1 = w.heap.size + 1 ∧ b2 = w.heap.size + 1 + 1 ∧ b3 = w.heap.size + 1 + 1 + 1 ∧ b4 = w.heap.size + 1 + 1 + 1 + 1 ∧ StpS w b0 b1 b2 b3 b4 [.int .u64 pl, .int .u64 d, .int .u64 g] [.int .u8 k, .int .i64 2, .int .u64 fi, .int .u64 g, .bool false, .int .u64 su, .int .i64 wy] wx)
  case first =>
    go_wp2
    go_meet
    exact ⟨rfl, _, _, _, _, _, rfl, rfl, rfl, rfl, rfl, HB.out⟩
  case rest =>
    obtain ⟨rfl, b0, b1, b2, b3, b4, hb0, hb1, hb2, hb3, hb4, hP⟩ := hcut
    rw [← hb4, ← hb3, ← hb2, ← hb1, ← hb0]
    have HR := Lib.hid hP
    obtain ⟨gt0, gt1, gt2, gt3, gt4⟩ := hP.gt
    have x0 := hP.r.lt
    have x1 := hP.u.lt
    have x2 := hP.rr.lt
    have x3 := hP.ru.lt
    have x4 := hP.rd.lt
    have y01 : ¬ b0 = b1 := by omega
    have y02 : ¬ b0 = b2 := by omega
    have y03 : ¬ b0 = b3 := by omega
    have y04 : ¬ b0 = b4 := by omega
    have y10 : ¬ b1 = b0 := by omega
    have y12 : ¬ b1 = b2 := by omega
    have y13 : ¬ b1 = b3 := by omega
    have y14 : ¬ b1 = b4 := by omega
    have y20 : ¬ b2 = b0 := by omega
    have y21 : ¬ b2 = b1 := by omega
    have y23 : ¬ b2 = b3 := by omega
    have y24 : ¬ b2 = b4 := by omega
    have y30 : ¬ b3 = b0 := by omega
    have y31 : ¬ b3 = b1 := by omega
    have y32 : ¬ b3 = b2 := by omega
    have y34 : ¬ b3 = b4 := by omega
    have y40 : ¬ b4 = b0 := by omega
    have y41 : ¬ b4 = b1 := by omega
    have y42 : ¬ b4 = b2 := by omega
    have y43 : ¬ b4 = b3 := by omega
    obtain ⟨w0, w1, w2⟩ := hP.r.three3
    obtain ⟨v0, v1, v2, v3, v4, v5, v6⟩ := hP.u.seven
    obtain ⟨r0, r1, r2⟩ := hP.rr.three3
    obtain ⟨q0, q1, q2, q3, q4, q5, q6⟩ := hP.ru.seven
    obtain ⟨z0, z1, z2, z3, z4⟩ := hP.rd.five6
    have wf := hP.r.free
    have uf := hP.u.free
    have rf := hP.rr.free
    have qf := hP.ru.free
    have zf := hP.rd.free
    clear hP hb0 hb1 hb2 hb3 hb4
    go_upto_region 19 with fail
    go_cut [] (fun wx => Row wx b2 31 [.int .u64 pl, .int .u64 d, .int .u64 (up g)] ∧ Row wx b3 40 [.int .u8 k, .int .i64 0, .int .u64 fi, .int .u64 g, .bool true, .int .u64 (up g), .int .i64 wy] ∧ Row wx b4 45 [.int .u8 5, .int .i64 1, .int .u64 g, .int .u64 (up g), .bool true] ∧ Below w.heap.size w wx)
    case first =>

      go_region
      all_goals
        go_wp2_with fail
        go_meet
        refine ⟨?_, ?_, ?_, ?_⟩
        · exact Row.of_eq (Row.drew (Row.alloc (Row.far (Row.far (Row.far (Row.far (Row.far (Row.far (Row.far (Row.far (Row.far (Row.far (Row.far (Row.far (Row.set (Row.set (Row.set (Row.far (Row.far (Row.far (Row.far HR.out.rr (p := ⟨b1, 1, none⟩) y12 _) (p := ⟨b1, 4, none⟩) y12 _) (p := ⟨b1, 5, none⟩) y12 _) (p := ⟨b0, 2, none⟩) y02 _) 0 _) 1 _) 2 _) (p := ⟨b3, 0, none⟩) y32 _) (p := ⟨b3, 1, none⟩) y32 _) (p := ⟨b3, 2, none⟩) y32 _) (p := ⟨b3, 3, none⟩) y32 _) (p := ⟨b3, 4, none⟩) y32 _) (p := ⟨b3, 5, none⟩) y32 _) (p := ⟨b3, 6, none⟩) y32 _) (p := ⟨b4, 0, none⟩) y42 _) (p := ⟨b4, 1, none⟩) y42 _) (p := ⟨b4, 2, none⟩) y42 _) (p := ⟨b4, 3, none⟩) y42 _) (p := ⟨b4, 4, none⟩) y42 _) _)) rfl
        · exact Row.of_eq (Row.drew (Row.alloc (Row.far (Row.far (Row.far (Row.far (Row.far (Row.set (Row.set (Row.set (Row.set (Row.set (Row.set (Row.set (Row.far (Row.far (Row.far (Row.far (Row.far (Row.far (Row.far HR.out.ru (p := ⟨b1, 1, none⟩) y13 _) (p := ⟨b1, 4, none⟩) y13 _) (p := ⟨b1, 5, none⟩) y13 _) (p := ⟨b0, 2, none⟩) y03 _) (p := ⟨b2, 0, none⟩) y23 _) (p := ⟨b2, 1, none⟩) y23 _) (p := ⟨b2, 2, none⟩) y23 _) 0 _) 1 _) 2 _) 3 _) 4 _) 5 _) 6 _) (p := ⟨b4, 0, none⟩) y43 _) (p := ⟨b4, 1, none⟩) y43 _) (p := ⟨b4, 2, none⟩) y43 _) (p := ⟨b4, 3, none⟩) y43 _) (p := ⟨b4, 4, none⟩) y43 _) _)) rfl
        · exact Row.of_eq (Row.drew (Row.alloc (Row.set (Row.set (Row.set (Row.set (Row.set (Row.far (Row.far (Row.far (Row.far (Row.far (Row.far (Row.far (Row.far (Row.far (Row.far (Row.far (Row.far (Row.far (Row.far HR.out.rd (p := ⟨b1, 1, none⟩) y14 _) (p := ⟨b1, 4, none⟩) y14 _) (p := ⟨b1, 5, none⟩) y14 _) (p := ⟨b0, 2, none⟩) y04 _) (p := ⟨b2, 0, none⟩) y24 _) (p := ⟨b2, 1, none⟩) y24 _) (p := ⟨b2, 2, none⟩) y24 _) (p := ⟨b3, 0, none⟩) y34 _) (p := ⟨b3, 1, none⟩) y34 _) (p := ⟨b3, 2, none⟩) y34 _) (p := ⟨b3, 3, none⟩) y34 _) (p := ⟨b3, 4, none⟩) y34 _) (p := ⟨b3, 5, none⟩) y34 _) (p := ⟨b3, 6, none⟩) y34 _) 0 _) 1 _) 2 _) 3 _) 4 _) _)) rfl
        · repeat (first | (with_reducible exact HR.out.low) | (with_reducible refine Below.drew ?_) | (with_reducible refine Below.draws ?_ _) | (with_reducible refine Below.alloc ?_ (by (try simp); omega) _) | (with_reducible refine Below.setCell ?_ (by (try simp); omega) _))
    case rest =>
      obtain ⟨h2, h3, h4, hb⟩ := hcut
      clear r0 r1 r2 q0 q1 q2 q3 q4 q5 q6 z0 z1 z2 z3 z4
      obtain ⟨r0, r1, r2⟩ := h2.three3
      obtain ⟨q0, q1, q2, q3, q4, q5, q6⟩ := h3.seven
      obtain ⟨z0, z1, z2, z3, z4⟩ := h4.five6
      go_wp2
      refine bodyPost_ret (v := .tuple #[.agg #[.int .u64 pl, .int .u64 d, .int .u64 (up g)], .agg #[.int .u8 k, .int .i64 0, .int .u64 fi, .int .u64 g, .bool true, .int .u64 (up g), .int .i64 wy], .agg #[.int .u8 5, .int .i64 1, .int .u64 g, .int .u64 (up g), .bool true]]) (by simp [results, Try.results30, go_sem, r0, r1, r2, q0, q1, q2, q3, q4, q5, q6, z0, z1, z2, z3, z4]) rfl ⟨rfl, hb⟩
end Go.Proofs.Ytamigipljgijlaa
