/- THE WALKS of the document's Step of a ring: a sum; one that has ended. -/
import Derived.Test.YtjehcgeodcpcaaaKp
namespace Go.Proofs.Ytjehcgeodcpcaaa
open Go Go.RowKit

set_option maxRecDepth 100000
set_option maxHeartbeats 6400000

theorem dsum_any {w : World} {A : Option Addr} {len c i q cur : Nat} {ws : List Int} {wd t x nx sm sm' : Int} {bg en' : Bool} (hen : (decide ((q : Int) < (cur : Int) + 1)) = en') (h : LiesU w A ws) (hp : 0 < len) (hl : len ≤ 4096) (hq : q ≤ 4294967295) (hcur : cur ≤ q) (hnx : (bg = true ∧ nx = (cur : Int)) ∨ (bg = false ∧ nx = 0 ∧ q + 1 - len = cur)) (hi : cur % len = i) (hx : ws[i]? = some x) (hux : U64 x) (hs0 : 0 ≤ sm) (hs1 : sm ≤ 17587891077120) (hsm : sm + cntN x (cur : Int) = sm') :
    Calls Try.prog 30 #[.agg #[.int .i64 wd, .slice A len c], .agg (undN 2 t 0 bg false 0 nx false sm 0).toArray, .int .i64 (q : Int)] w fun e w' => e = .returned (.tuple #[.agg #[.int .i64 wd, .slice A len c], .agg (undN 2 t 0 true false 0 ((cur : Int) + 1) en' sm' 0).toArray, .agg #[.int .u8 1, .int .i64 (i : Int), .int .u64 x, .int .u64 x, .bool true]]) ∧ Below w.heap.size w w' := by
  have HEN := Lib.hid hen
  clear hen
  have HNX := Lib.hid hnx
  have HSM := Lib.hid hsm
  have HL := Lib.hid h
  have HX := Lib.hid hx
  have HI := Lib.hid hi
  have hil : i < len := by rw [← hi]; exact Nat.mod_lt _ hp
  have hil2 : (i : Int) < (len : Int) := by omega
  have hlen0 : ¬ (len : Int) = 0 := by omega
  have hux0 := hux.1
  have hux1 := hux.2
  obtain ⟨g, rfl, hg, _⟩ := h i x hx
  have hA := and32 hux
  clear h hx hi hux hnx hsm
  unfold undN
  go_enter Try.func30, Try.ntmps30
  go_upto_if 13 with fail
  go_cut [] (fun wx => ∃ b0 b1 b2 b3 b4, b0 = w.heap.size ∧ b1 = w.heap.size + 1 ∧ b2 = w.heap.size + 1 + 1 ∧ b3 = w.heap.size + 1 + 1 + 1 ∧ b4 = w.heap.size + 1 + 1 + 1 + 1 ∧ StpR w b0 b1 b2 b3 b4 [.int .i64 wd, .slice (some ⟨g, 0, none⟩) len c] (undN 2 t 0 true false 0 cur false sm 0) wx)
  case first =>
    rcases HNX.out with ⟨rfl, rfl⟩ | ⟨rfl, rfl, hm⟩
    · have HB := Lib.hid (stpR_begin w [.int .i64 wd, .slice (some ⟨g, 0, none⟩) len c] (undN 2 t 0 true false 0 cur false sm 0))
      go_wp2
      go_meet
      exact ⟨_, _, _, _, _, rfl, rfl, rfl, rfl, rfl, HB.out⟩
    · have HB := Lib.hid (stpR_begin w [.int .i64 wd, .slice (some ⟨g, 0, none⟩) len c] (undN 2 t 0 true false 0 0 false sm 0))
      have HM := Lib.hid hm
      clear hm
      go_wp2_with (go_at_call 34; refine (dleast_any hq hl _).mono ?_; rintro e w2 ⟨rfl, hb2⟩; rw [HM.out]; have hs2 := HB.out.on hb2; have HS2 := Lib.hid hs2; have hu2 := hs2.u; unfold undN at hu2; obtain ⟨m0, m1, m2, m3, m4, m5, m6, m7, m8, m9⟩ := hu2.ten; have mf := hs2.u.free; have mlt := hs2.u.lt; clear hs2 hu2 hb2)
      go_meet
      exact ⟨_, _, _, _, _, rfl, rfl, rfl, rfl, rfl, HS2.out.setU 6 (.int .i64 (cur : Int))⟩
  case rest =>
    obtain ⟨b0, b1, b2, b3, b4, hb0, hb1, hb2, hb3, hb4, hP⟩ := hcut
    rw [← hb4, ← hb3, ← hb2, ← hb1, ← hb0]
    have HR := Lib.hid hP
    obtain ⟨gt0, gt1, gt2, gt3, gt4⟩ := hP.gt
    have x0 := hP.r.lt
    have x1 := hP.u.lt
    have x2 := hP.rr.lt
    have x3 := hP.ru.lt
    have x4 := hP.rd.lt
    have y01 : ¬ b0 = b1 := by omega
    have y02 : ¬ b0 = b2 := by omega
    have y03 : ¬ b0 = b3 := by omega
    have y04 : ¬ b0 = b4 := by omega
    have y10 : ¬ b1 = b0 := by omega
    have y12 : ¬ b1 = b2 := by omega
    have y13 : ¬ b1 = b3 := by omega
    have y14 : ¬ b1 = b4 := by omega
    have y20 : ¬ b2 = b0 := by omega
    have y21 : ¬ b2 = b1 := by omega
    have y23 : ¬ b2 = b3 := by omega
    have y24 : ¬ b2 = b4 := by omega
    have y30 : ¬ b3 = b0 := by omega
    have y31 : ¬ b3 = b1 := by omega
    have y32 : ¬ b3 = b2 := by omega
    have y34 : ¬ b3 = b4 := by omega
    have y40 : ¬ b4 = b0 := by omega
    have y41 : ¬ b4 = b1 := by omega
    have y42 : ¬ b4 = b2 := by omega
    have y43 : ¬ b4 = b3 := by omega
    have hu := hP.u
    have hru := hP.ru
    have hrd := hP.rd
    unfold undN at hu
    unfold undNO at hru
    unfold didNO at hrd
    obtain ⟨w0, w1⟩ := hP.r.two2
    obtain ⟨v0, v1, v2, v3, v4, v5, v6, v7, v8, v9⟩ := hu.ten
    obtain ⟨r0, r1⟩ := hP.rr.two2
    obtain ⟨q0, q1, q2, q3, q4, q5, q6, q7, q8, q9⟩ := hru.ten
    obtain ⟨z0, z1, z2, z3, z4⟩ := hrd.five6
    have wf := hP.r.free
    have uf := hP.u.free
    have rf := hP.rr.free
    have qf := hP.ru.free
    have zf := hP.rd.free
    clear hu hru hrd
    obtain ⟨g', hgg, _, hcx⟩ := (HL.out.below hP.low) i x HX.out
    cases hgg
    have hgl : g < wc.heap.size := Nat.lt_of_lt_of_le hg hP.low.size
    have ng1 : ¬ g = b1 := by omega
    have ng1' : ¬ b1 = g := by omega
    clear hP hb0 hb1 hb2 hb3 hb4
    go_upto_region 4 with fail
    go_cut [9] (fun s9 wx => s9 = .int .i64 (i : Int) ∧ wx = wc)
    case first =>
      go_wp2
      go_meet
      exact ⟨by rw [← HI.out, Int.natCast_emod], rfl⟩
    case rest =>
      obtain ⟨rfl, rfl⟩ := hcut
      go_upto_if 35 with fail
      go_cut [] (fun wx => StpR w b0 b1 b2 b3 b4 [.int .i64 wd, .slice (some ⟨g, 0, none⟩) len c] (undN 2 t 0 true false 0 cur false sm' 0) wx)
      case first =>
        by_cases e : x / 4294967296 = (cur : Int)
        · have d2 : (x / 4294967296 == (cur : Int)) = true := by simpa using e
          have hcc := HSM.out
          unfold cntN at hcc
          rw [if_pos e] at hcc
          have HCC := Lib.hid hcc
          have hov : sm + x % 4294967296 < 18446744073709551616 := by omega
          clear hcc
          go_wp2
          go_meet
          rw [← HCC.out]
          exact HR.out.setU 8 (.int .u64 (sm + x % 4294967296))
        · have d2 : (x / 4294967296 == (cur : Int)) = false := by simpa using e
          have hcc := HSM.out
          unfold cntN at hcc
          rw [if_neg e] at hcc
          have HCC := Lib.hid hcc
          clear hcc
          go_wp2
          go_meet
          rw [← HCC.out, Int.add_zero]
          exact HR.out
      case rest =>
        have hP := hcut
        have HR := Lib.hid hP
        clear gt0 gt1 gt2 gt3 gt4 x0 x1 x2 x3 x4 y01 y02 y03 y04 y10 y12 y13 y14 y20 y21 y23 y24 y30 y31 y32 y34 y40 y41 y42 y43 w0 w1 v0 v1 v2 v3 v4 v5 v6 v7 v8 v9 r0 r1 q0 q1 q2 q3 q4 q5 q6 q7 q8 q9 z0 z1 z2 z3 z4 wf uf rf qf zf
        obtain ⟨gt0, gt1, gt2, gt3, gt4⟩ := hP.gt
        have x0 := hP.r.lt
        have x1 := hP.u.lt
        have x2 := hP.rr.lt
        have x3 := hP.ru.lt
        have x4 := hP.rd.lt
        have y01 : ¬ b0 = b1 := by omega
        have y02 : ¬ b0 = b2 := by omega
        have y03 : ¬ b0 = b3 := by omega
        have y04 : ¬ b0 = b4 := by omega
        have y10 : ¬ b1 = b0 := by omega
        have y12 : ¬ b1 = b2 := by omega
        have y13 : ¬ b1 = b3 := by omega
        have y14 : ¬ b1 = b4 := by omega
        have y20 : ¬ b2 = b0 := by omega
        have y21 : ¬ b2 = b1 := by omega
        have y23 : ¬ b2 = b3 := by omega
        have y24 : ¬ b2 = b4 := by omega
        have y30 : ¬ b3 = b0 := by omega
        have y31 : ¬ b3 = b1 := by omega
        have y32 : ¬ b3 = b2 := by omega
        have y34 : ¬ b3 = b4 := by omega
        have y40 : ¬ b4 = b0 := by omega
        have y41 : ¬ b4 = b1 := by omega
        have y42 : ¬ b4 = b2 := by omega
        have y43 : ¬ b4 = b3 := by omega
        have hu := hP.u
        have hru := hP.ru
        have hrd := hP.rd
        unfold undN at hu
        unfold undNO at hru
        unfold didNO at hrd
        obtain ⟨w0, w1⟩ := hP.r.two2
        obtain ⟨v0, v1, v2, v3, v4, v5, v6, v7, v8, v9⟩ := hu.ten
        obtain ⟨r0, r1⟩ := hP.rr.two2
        obtain ⟨q0, q1, q2, q3, q4, q5, q6, q7, q8, q9⟩ := hru.ten
        obtain ⟨z0, z1, z2, z3, z4⟩ := hrd.five6
        have wf := hP.r.free
        have uf := hP.u.free
        have rf := hP.rr.free
        have qf := hP.ru.free
        have zf := hP.rd.free
        clear hu hru hrd
        clear hP hcut
        go_upto_region 9 with fail
        go_cut [] (fun wx => StpR w b0 b1 b2 b3 b4 [.int .i64 wd, .slice (some ⟨g, 0, none⟩) len c] (undN 2 t 0 true false 0 ((cur : Int) + 1) en' sm' 0) wx)
        case first =>
          go_wp2
          go_meet
          rw [← HEN.out]
          exact (HR.out.setU 6 (.int .i64 ((cur : Int) + 1))).setU 7 (.bool (decide ((q : Int) < (cur : Int) + 1)))
        case rest =>
          have hP := hcut
          have HR := Lib.hid hP
          clear gt0 gt1 gt2 gt3 gt4 x0 x1 x2 x3 x4 y01 y02 y03 y04 y10 y12 y13 y14 y20 y21 y23 y24 y30 y31 y32 y34 y40 y41 y42 y43 w0 w1 v0 v1 v2 v3 v4 v5 v6 v7 v8 v9 r0 r1 q0 q1 q2 q3 q4 q5 q6 q7 q8 q9 z0 z1 z2 z3 z4 wf uf rf qf zf
          obtain ⟨gt0, gt1, gt2, gt3, gt4⟩ := hP.gt
          have x0 := hP.r.lt
          have x1 := hP.u.lt
          have x2 := hP.rr.lt
          have x3 := hP.ru.lt
          have x4 := hP.rd.lt
          have y01 : ¬ b0 = b1 := by omega
          have y02 : ¬ b0 = b2 := by omega
          have y03 : ¬ b0 = b3 := by omega
          have y04 : ¬ b0 = b4 := by omega
          have y10 : ¬ b1 = b0 := by omega
          have y12 : ¬ b1 = b2 := by omega
          have y13 : ¬ b1 = b3 := by omega
          have y14 : ¬ b1 = b4 := by omega
          have y20 : ¬ b2 = b0 := by omega
          have y21 : ¬ b2 = b1 := by omega
          have y23 : ¬ b2 = b3 := by omega
          have y24 : ¬ b2 = b4 := by omega
          have y30 : ¬ b3 = b0 := by omega
          have y31 : ¬ b3 = b1 := by omega
          have y32 : ¬ b3 = b2 := by omega
          have y34 : ¬ b3 = b4 := by omega
          have y40 : ¬ b4 = b0 := by omega
          have y41 : ¬ b4 = b1 := by omega
          have y42 : ¬ b4 = b2 := by omega
          have y43 : ¬ b4 = b3 := by omega
          have hu := hP.u
          have hru := hP.ru
          have hrd := hP.rd
          unfold undN at hu
          unfold undNO at hru
          unfold didNO at hrd
          obtain ⟨w0, w1⟩ := hP.r.two2
          obtain ⟨v0, v1, v2, v3, v4, v5, v6, v7, v8, v9⟩ := hu.ten
          obtain ⟨r0, r1⟩ := hP.rr.two2
          obtain ⟨q0, q1, q2, q3, q4, q5, q6, q7, q8, q9⟩ := hru.ten
          obtain ⟨z0, z1, z2, z3, z4⟩ := hrd.five6
          have wf := hP.r.free
          have uf := hP.u.free
          have rf := hP.rr.free
          have qf := hP.ru.free
          have zf := hP.rd.free
          clear hu hru hrd
          clear hP hcut
          go_wp2
          go_region
          all_goals
            go_wp2
            refine bodyPost_ret (v := .tuple #[.agg #[.int .i64 wd, .slice (some ⟨g, 0, none⟩) len c], .agg #[.int .u8 2, .int .i64 t, .int .u64 0, .bool true, .bool false, .int .u64 0, .int .i64 ((cur : Int) + 1), .bool en', .int .u64 sm', .int .i64 0], .agg #[.int .u8 1, .int .i64 (i : Int), .int .u64 x, .int .u64 x, .bool true]]) (by simp [results, Try.results30, go_sem, r0, r1, q0, q1, q2, q3, q4, q5, q6, q7, q8, q9, z0, z1, z2, z3, z4]) rfl ⟨rfl, ?_⟩
            repeat (first | (with_reducible exact HR.out.low) | (with_reducible refine Below.drew ?_) | (with_reducible refine Below.draws ?_ _) | refine Below.setCell ?_ (by (try simp); omega) _)

end Go.Proofs.Ytjehcgeodcpcaaa
