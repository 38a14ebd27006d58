/- THE WALKS of the document's Step of a ring: an add misses, hits. -/
import Derived.Test.YtjehcgeodcpcaaaKq
namespace Go.Proofs.Ytjehcgeodcpcaaa
open Go Go.RowKit

set_option maxRecDepth 100000
set_option maxHeartbeats 6400000

theorem dadd_miss {w : World} {A : Option Addr} {len c i q : Nat} {ws : List Int} {wd t nn x : Int} (h : LiesU w A ws) (hp : 0 < len) (hl : len ≤ 4096) (hw : 1 ≤ wd) (hw2 : wd ≤ 1152921504606846976) (_ht : t ≤ 9223372036854775807) (hf : FineN wd 1 t nn q) (hi : q % len = i) (hx : ws[i]? = some x) (hux : U64 x) {saw : Int} (hne : ¬ x = saw) :
    Calls Try.prog 12 #[.agg #[.int .i64 wd, .slice A len c], .agg (undN 1 t nn false true saw 0 false 0 0).toArray] w fun e w' => e = .returned (.tuple #[.agg #[.int .i64 wd, .slice A len c], .agg (undN 1 t nn false false saw 0 false 0 0).toArray, .agg #[.int .u8 5, .int .i64 (i : Int), .int .u64 x, .int .u64 x, .bool false]]) ∧ Below w.heap.size w w' := by
  have HB := Lib.hid (stpR_begin w [.int .i64 wd, .slice A len c] (undN 1 t nn false true saw 0 false 0 0))
  have hnb : (x != saw) = true := by simpa using hne
  clear hne
  have q0 := hf.t0
  have HQ : Hid (Go.RowKit.wrap64 (t.tdiv wd) = (q : Int)) := Lib.hid (by rw [Int.tdiv_eq_ediv_of_nonneg hf.t0, hf.tick]; have := hf.top; unfold Go.RowKit.wrap64; omega)
  have hq1 := hf.top
  have hux0 := hux.1
  have hux1 := hux.2
  have hnn0 := hf.right.2.1
  have hnn1 := hf.right.2.2.1
  have hwd0 : ¬ wd = 0 := by omega
  have HL := Lib.hid h
  have HX := Lib.hid hx
  have HI := Lib.hid hi
  have hil : i < len := by rw [← hi]; exact Nat.mod_lt _ hp
  have hil2 : (i : Int) < (len : Int) := by omega
  have hlen0 : ¬ (len : Int) = 0 := by omega
  obtain ⟨g, rfl, hg, _⟩ := h i x hx
  have hA := and32 hux
  clear q0 h hx hi hf hux
  unfold undN
  go_enter Try.func12, Try.ntmps12
  go_upto_region 3 with fail
  go_cut [7] (fun s7 wx => s7 = .int .i64 (q : Int) ∧ ∃ b0 b1 b2 b3 b4, b0 = w.heap.size ∧ b1 = w.heap.size + 1 ∧ b2 = w.heap.size + 1 + 1 ∧ b3 = w.heap.size + 1 + 1 + 1 ∧ b4 = w.heap.size + 1 + 1 + 1 + 1 ∧ StpR w b0 b1 b2 b3 b4 [.int .i64 wd, .slice (some ⟨g, 0, none⟩) len c] (undN 1 t nn false true saw 0 false 0 0) wx)
  case first =>
    go_wp2
    go_meet
    exact ⟨by rw [HQ.out], _, _, _, _, _, rfl, rfl, rfl, rfl, rfl, HB.out⟩
  case rest =>
    obtain ⟨rfl, b0, b1, b2, b3, b4, hb0, hb1, hb2, hb3, hb4, hP⟩ := hcut
    rw [← hb4, ← hb3, ← hb2, ← hb1, ← hb0]
    have HR := Lib.hid hP
    obtain ⟨gt0, gt1, gt2, gt3, gt4⟩ := hP.gt
    have x0 := hP.r.lt
    have x1 := hP.u.lt
    have x2 := hP.rr.lt
    have x3 := hP.ru.lt
    have x4 := hP.rd.lt
    have y01 : ¬ b0 = b1 := by omega
    have y02 : ¬ b0 = b2 := by omega
    have y03 : ¬ b0 = b3 := by omega
    have y04 : ¬ b0 = b4 := by omega
    have y10 : ¬ b1 = b0 := by omega
    have y12 : ¬ b1 = b2 := by omega
    have y13 : ¬ b1 = b3 := by omega
    have y14 : ¬ b1 = b4 := by omega
    have y20 : ¬ b2 = b0 := by omega
    have y21 : ¬ b2 = b1 := by omega
    have y23 : ¬ b2 = b3 := by omega
    have y24 : ¬ b2 = b4 := by omega
    have y30 : ¬ b3 = b0 := by omega
    have y31 : ¬ b3 = b1 := by omega
    have y32 : ¬ b3 = b2 := by omega
    have y34 : ¬ b3 = b4 := by omega
    have y40 : ¬ b4 = b0 := by omega
    have y41 : ¬ b4 = b1 := by omega
    have y42 : ¬ b4 = b2 := by omega
    have y43 : ¬ b4 = b3 := by omega
    have hu := hP.u
    have hru := hP.ru
    have hrd := hP.rd
    unfold undN at hu
    unfold undNO at hru
    unfold didNO at hrd
    obtain ⟨w0, w1⟩ := hP.r.two2
    obtain ⟨v0, v1, v2, v3, v4, v5, v6, v7, v8, v9⟩ := hu.ten
    obtain ⟨r0, r1⟩ := hP.rr.two2
    obtain ⟨q0, q1, q2, q3, q4, q5, q6, q7, q8, q9⟩ := hru.ten
    obtain ⟨z0, z1, z2, z3, z4⟩ := hrd.five6
    have wf := hP.r.free
    have uf := hP.u.free
    have rf := hP.rr.free
    have qf := hP.ru.free
    have zf := hP.rd.free
    clear hu hru hrd
    obtain ⟨g', hgg, _, hcx⟩ := (HL.out.below hP.low) i x HX.out
    cases hgg
    have hgl : g < wc.heap.size := Nat.lt_of_lt_of_le hg hP.low.size
    have ng1 : ¬ g = b1 := by omega
    have ng1' : ¬ b1 = g := by omega
    clear hP hb0 hb1 hb2 hb3 hb4
    go_upto_region 6 with fail
    go_cut [8] (fun s8 wx => s8 = .int .i64 (i : Int) ∧ wx = wc)
    case first =>
      go_wp2
      go_meet
      exact ⟨by rw [← HI.out, Int.natCast_emod], rfl⟩
    case rest =>
      obtain ⟨rfl, rfl⟩ := hcut
      go_upto_region 20 with fail
      go_cut [85] (fun s85 wx => s85 = .bool true ∧ StpR w b0 b1 b2 b3 b4 [.int .i64 wd, .slice (some ⟨g, 0, none⟩) len c] (undN 1 t nn false false saw 0 false 0 0) wx)
      case first =>
        go_wp2
        go_meet
        exact ⟨rfl, HR.out.setU 4 (.bool false)⟩
      case rest =>
        obtain ⟨rfl, hP⟩ := hcut
        have HR := Lib.hid hP
        clear gt0 gt1 gt2 gt3 gt4 x0 x1 x2 x3 x4 y01 y02 y03 y04 y10 y12 y13 y14 y20 y21 y23 y24 y30 y31 y32 y34 y40 y41 y42 y43 w0 w1 v0 v1 v2 v3 v4 v5 v6 v7 v8 v9 r0 r1 q0 q1 q2 q3 q4 q5 q6 q7 q8 q9 z0 z1 z2 z3 z4 wf uf rf qf zf
        obtain ⟨gt0, gt1, gt2, gt3, gt4⟩ := hP.gt
        have x0 := hP.r.lt
        have x1 := hP.u.lt
        have x2 := hP.rr.lt
        have x3 := hP.ru.lt
        have x4 := hP.rd.lt
        have y01 : ¬ b0 = b1 := by omega
        have y02 : ¬ b0 = b2 := by omega
        have y03 : ¬ b0 = b3 := by omega
        have y04 : ¬ b0 = b4 := by omega
        have y10 : ¬ b1 = b0 := by omega
        have y12 : ¬ b1 = b2 := by omega
        have y13 : ¬ b1 = b3 := by omega
        have y14 : ¬ b1 = b4 := by omega
        have y20 : ¬ b2 = b0 := by omega
        have y21 : ¬ b2 = b1 := by omega
        have y23 : ¬ b2 = b3 := by omega
        have y24 : ¬ b2 = b4 := by omega
        have y30 : ¬ b3 = b0 := by omega
        have y31 : ¬ b3 = b1 := by omega
        have y32 : ¬ b3 = b2 := by omega
        have y34 : ¬ b3 = b4 := by omega
        have y40 : ¬ b4 = b0 := by omega
        have y41 : ¬ b4 = b1 := by omega
        have y42 : ¬ b4 = b2 := by omega
        have y43 : ¬ b4 = b3 := by omega
        have hu := hP.u
        have hru := hP.ru
        have hrd := hP.rd
        unfold undN at hu
        unfold undNO at hru
        unfold didNO at hrd
        obtain ⟨w0, w1⟩ := hP.r.two2
        obtain ⟨v0, v1, v2, v3, v4, v5, v6, v7, v8, v9⟩ := hu.ten
        obtain ⟨r0, r1⟩ := hP.rr.two2
        obtain ⟨q0, q1, q2, q3, q4, q5, q6, q7, q8, q9⟩ := hru.ten
        obtain ⟨z0, z1, z2, z3, z4⟩ := hrd.five6
        have wf := hP.r.free
        have uf := hP.u.free
        have rf := hP.rr.free
        have qf := hP.ru.free
        have zf := hP.rd.free
        clear hu hru hrd
        clear hP
        go_wp2
        go_region
        all_goals
          go_wp2
          refine bodyPost_ret (v := .tuple #[.agg #[.int .i64 wd, .slice (some ⟨g, 0, none⟩) len c], .agg #[.int .u8 1, .int .i64 t, .int .u64 nn, .bool false, .bool false, .int .u64 saw, .int .i64 0, .bool false, .int .u64 0, .int .i64 0], .agg #[.int .u8 5, .int .i64 (i : Int), .int .u64 x, .int .u64 x, .bool false]]) (by simp [results, Try.results12, go_sem, r0, r1, q0, q1, q2, q3, q4, q5, q6, q7, q8, q9, z0, z1, z2, z3, z4]) rfl ⟨rfl, ?_⟩
          repeat (first | (with_reducible exact HR.out.low) | (with_reducible refine Below.drew ?_) | (with_reducible refine Below.draws ?_ _) | refine Below.setCell ?_ (by (try simp); omega) _)
theorem dadd_hit {w : World} {A : Option Addr} {len c i q : Nat} {ws : List Int} {wd t nn x : Int} (h : LiesU w A ws) (hp : 0 < len) (hl : len ≤ 4096) (hw : 1 ≤ wd) (hw2 : wd ≤ 1152921504606846976) (_ht : t ≤ 9223372036854775807) (hf : FineN wd 1 t nn q) (hi : q % len = i) (hx : ws[i]? = some x) (hux : U64 x) {cnt y : Int} {ys : List Int} (hn : ws.length = len) (hc : cntN x (q : Int) + nn = cnt) (hct : cnt ≤ 4294967295) (hy : wordN (q : Int) cnt = y) (hys : ws.set i y = ys) :
    Calls Try.prog 12 #[.agg #[.int .i64 wd, .slice A len c], .agg (undN 1 t nn false true x 0 false 0 0).toArray] w fun e w' => ∃ g5 c5, e = .returned (.tuple #[.agg #[.int .i64 wd, .slice (some ⟨g5, 0, none⟩) len c5], .agg (undN 1 t nn false false x 0 true cnt 0).toArray, .agg #[.int .u8 5, .int .i64 (i : Int), .int .u64 x, .int .u64 y, .bool true]]) ∧ w.heap.size ≤ g5 ∧ w'.ownsRow w.heap.size 37 1 (.slice (some ⟨g5, 0, none⟩) len c5) len (u64s ys) ∧ Below w.heap.size w w' := by
  have HB := Lib.hid (stpR_begin w [.int .i64 wd, .slice A len c] (undN 1 t nn false true x 0 false 0 0))
  have HC := Lib.hid hc
  have HY := Lib.hid hy
  have HYS := Lib.hid hys
  have HN := Lib.hid hn
  have hcn := cntN_lo hux (q : Int)
  have hc0 : 0 ≤ cnt := by have := hf.right.2.1; omega
  have HO := Lib.hid (or32 (q := (q : Int)) (c := cnt) (by omega) (by have := hf.top; omega) hc0 hct)
  clear hc hy hys hn hcn
  have q0 := hf.t0
  have HQ : Hid (Go.RowKit.wrap64 (t.tdiv wd) = (q : Int)) := Lib.hid (by rw [Int.tdiv_eq_ediv_of_nonneg hf.t0, hf.tick]; have := hf.top; unfold Go.RowKit.wrap64; omega)
  have hq1 := hf.top
  have hux0 := hux.1
  have hux1 := hux.2
  have hnn0 := hf.right.2.1
  have hnn1 := hf.right.2.2.1
  have hwd0 : ¬ wd = 0 := by omega
  have HL := Lib.hid h
  have HX := Lib.hid hx
  have HI := Lib.hid hi
  have hil : i < len := by rw [← hi]; exact Nat.mod_lt _ hp
  have hil2 : (i : Int) < (len : Int) := by omega
  have hlen0 : ¬ (len : Int) = 0 := by omega
  obtain ⟨g, rfl, hg, _⟩ := h i x hx
  have hA := and32 hux
  clear q0 h hx hi hf hux
  unfold undN
  go_enter Try.func12, Try.ntmps12
  go_upto_region 3 with fail
  go_cut [7] (fun s7 wx => s7 = .int .i64 (q : Int) ∧ ∃ b0 b1 b2 b3 b4, b0 = w.heap.size ∧ b1 = w.heap.size + 1 ∧ b2 = w.heap.size + 1 + 1 ∧ b3 = w.heap.size + 1 + 1 + 1 ∧ b4 = w.heap.size + 1 + 1 + 1 + 1 ∧ StpR w b0 b1 b2 b3 b4 [.int .i64 wd, .slice (some ⟨g, 0, none⟩) len c] (undN 1 t nn false true x 0 false 0 0) wx)
  case first =>
    go_wp2
    go_meet
    exact ⟨by rw [HQ.out], _, _, _, _, _, rfl, rfl, rfl, rfl, rfl, HB.out⟩
  case rest =>
    obtain ⟨rfl, b0, b1, b2, b3, b4, hb0, hb1, hb2, hb3, hb4, hP⟩ := hcut
    rw [← hb4, ← hb3, ← hb2, ← hb1, ← hb0]
    have HR := Lib.hid hP
    obtain ⟨gt0, gt1, gt2, gt3, gt4⟩ := hP.gt
    have x0 := hP.r.lt
    have x1 := hP.u.lt
    have x2 := hP.rr.lt
    have x3 := hP.ru.lt
    have x4 := hP.rd.lt
    have y01 : ¬ b0 = b1 := by omega
    have y02 : ¬ b0 = b2 := by omega
    have y03 : ¬ b0 = b3 := by omega
    have y04 : ¬ b0 = b4 := by omega
    have y10 : ¬ b1 = b0 := by omega
    have y12 : ¬ b1 = b2 := by omega
    have y13 : ¬ b1 = b3 := by omega
    have y14 : ¬ b1 = b4 := by omega
    have y20 : ¬ b2 = b0 := by omega
    have y21 : ¬ b2 = b1 := by omega
    have y23 : ¬ b2 = b3 := by omega
    have y24 : ¬ b2 = b4 := by omega
    have y30 : ¬ b3 = b0 := by omega
    have y31 : ¬ b3 = b1 := by omega
    have y32 : ¬ b3 = b2 := by omega
    have y34 : ¬ b3 = b4 := by omega
    have y40 : ¬ b4 = b0 := by omega
    have y41 : ¬ b4 = b1 := by omega
    have y42 : ¬ b4 = b2 := by omega
    have y43 : ¬ b4 = b3 := by omega
    have hu := hP.u
    have hru := hP.ru
    have hrd := hP.rd
    unfold undN at hu
    unfold undNO at hru
    unfold didNO at hrd
    obtain ⟨w0, w1⟩ := hP.r.two2
    obtain ⟨v0, v1, v2, v3, v4, v5, v6, v7, v8, v9⟩ := hu.ten
    obtain ⟨r0, r1⟩ := hP.rr.two2
    obtain ⟨q0, q1, q2, q3, q4, q5, q6, q7, q8, q9⟩ := hru.ten
    obtain ⟨z0, z1, z2, z3, z4⟩ := hrd.five6
    have wf := hP.r.free
    have uf := hP.u.free
    have rf := hP.rr.free
    have qf := hP.ru.free
    have zf := hP.rd.free
    clear hu hru hrd
    obtain ⟨g', hgg, _, hcx⟩ := (HL.out.below hP.low) i x HX.out
    cases hgg
    have hgl : g < wc.heap.size := Nat.lt_of_lt_of_le hg hP.low.size
    have ng1 : ¬ g = b1 := by omega
    have ng1' : ¬ b1 = g := by omega
    clear hP hb0 hb1 hb2 hb3 hb4
    go_upto_region 6 with fail
    go_cut [8] (fun s8 wx => s8 = .int .i64 (i : Int) ∧ wx = wc)
    case first =>
      go_wp2
      go_meet
      exact ⟨by rw [← HI.out, Int.natCast_emod], rfl⟩
    case rest =>
      obtain ⟨rfl, rfl⟩ := hcut
      go_upto_region 20 with fail
      go_cut [85] (fun s85 wx => s85 = .bool false ∧ StpR w b0 b1 b2 b3 b4 [.int .i64 wd, .slice (some ⟨g, 0, none⟩) len c] (undN 1 t nn false false x 0 false 0 0) wx)
      case first =>
        go_wp2
        go_meet
        exact ⟨by simp, HR.out.setU 4 (.bool false)⟩
      case rest =>
        obtain ⟨rfl, hP⟩ := hcut
        have HR := Lib.hid hP
        clear gt0 gt1 gt2 gt3 gt4 x0 x1 x2 x3 x4 y01 y02 y03 y04 y10 y12 y13 y14 y20 y21 y23 y24 y30 y31 y32 y34 y40 y41 y42 y43 w0 w1 v0 v1 v2 v3 v4 v5 v6 v7 v8 v9 r0 r1 q0 q1 q2 q3 q4 q5 q6 q7 q8 q9 z0 z1 z2 z3 z4 wf uf rf qf zf
        obtain ⟨gt0, gt1, gt2, gt3, gt4⟩ := hP.gt
        have x0 := hP.r.lt
        have x1 := hP.u.lt
        have x2 := hP.rr.lt
        have x3 := hP.ru.lt
        have x4 := hP.rd.lt
        have y01 : ¬ b0 = b1 := by omega
        have y02 : ¬ b0 = b2 := by omega
        have y03 : ¬ b0 = b3 := by omega
        have y04 : ¬ b0 = b4 := by omega
        have y10 : ¬ b1 = b0 := by omega
        have y12 : ¬ b1 = b2 := by omega
        have y13 : ¬ b1 = b3 := by omega
        have y14 : ¬ b1 = b4 := by omega
        have y20 : ¬ b2 = b0 := by omega
        have y21 : ¬ b2 = b1 := by omega
        have y23 : ¬ b2 = b3 := by omega
        have y24 : ¬ b2 = b4 := by omega
        have y30 : ¬ b3 = b0 := by omega
        have y31 : ¬ b3 = b1 := by omega
        have y32 : ¬ b3 = b2 := by omega
        have y34 : ¬ b3 = b4 := by omega
        have y40 : ¬ b4 = b0 := by omega
        have y41 : ¬ b4 = b1 := by omega
        have y42 : ¬ b4 = b2 := by omega
        have y43 : ¬ b4 = b3 := by omega
        have hu := hP.u
        have hru := hP.ru
        have hrd := hP.rd
        unfold undN at hu
        unfold undNO at hru
        unfold didNO at hrd
        obtain ⟨w0, w1⟩ := hP.r.two2
        obtain ⟨v0, v1, v2, v3, v4, v5, v6, v7, v8, v9⟩ := hu.ten
        obtain ⟨r0, r1⟩ := hP.rr.two2
        obtain ⟨q0, q1, q2, q3, q4, q5, q6, q7, q8, q9⟩ := hru.ten
        obtain ⟨z0, z1, z2, z3, z4⟩ := hrd.five6
        have wf := hP.r.free
        have uf := hP.u.free
        have rf := hP.rr.free
        have qf := hP.ru.free
        have zf := hP.rd.free
        clear hu hru hrd
        have HLC := Lib.hid (HL.out.below hP.low)
        clear hP
        go_upto_if 99 with fail
        go_cut [12] (fun s12 wx => s12 = .int .u64 cnt ∧ wx = wc)
        case first =>
          by_cases e : x / 4294967296 = (q : Int)
          · have d2 : (x / 4294967296 == (q : Int)) = true := by simpa using e
            have hcc := HC.out
            unfold cntN at hcc
            rw [if_pos e] at hcc
            have HCC := Lib.hid hcc
            have hov : nn + x % 4294967296 < 18446744073709551616 := by omega
            clear hcc
            go_wp2
            go_meet
            exact ⟨by rw [← HCC.out, Int.add_comm], rfl⟩
          · have d2 : (x / 4294967296 == (q : Int)) = false := by simpa using e
            have hcc := HC.out
            unfold cntN at hcc
            rw [if_neg e] at hcc
            have HCC := Lib.hid hcc
            clear hcc
            go_wp2
            go_meet
            exact ⟨by rw [← HCC.out, Int.zero_add], rfl⟩
        case rest =>
          obtain ⟨rfl, rfl⟩ := hcut
          go_upto_region 25 with fail
          go_cut [13] (fun s13 wx => s13 = .int .u64 y ∧ wx = wc)
          case first =>
            go_wp2
            go_meet
            exact ⟨by rw [← HY.out]; unfold wordN; rw [← HO.out], rfl⟩
          case rest =>
            obtain ⟨rfl, rfl⟩ := hcut
            go_upto_region 28 with (go_at_call 31; refine (dset_any HLC.out HN.out hil hl HYS.out).mono ?_; rintro e w5 ⟨g5, c5, rfl, hg5, ho5, hb5⟩; have hs5 := HR.out.on hb5; have HR5 := Lib.hid hs5; have HO5 := Lib.hid ho5; have HG5 : Hid (wc.heap.size ≤ g5) := Lib.hid hg5; obtain ⟨a0, a1⟩ := hs5.r.two2; have af := hs5.r.free; have alt := hs5.r.lt; have hu5 := hs5.u; unfold undN at hu5; obtain ⟨m0, m1, m2, m3, m4, m5, m6, m7, m8, m9⟩ := hu5.ten; have mf := hs5.u.free; have mlt := hs5.u.lt; clear hs5 hg5 ho5 hb5 hu5)
            go_cut [] (fun wx => ∃ g5 c5, StpR w b0 b1 b2 b3 b4 [.int .i64 wd, .slice (some ⟨g5, 0, none⟩) len c5] (undN 1 t nn false false x 0 true cnt 0) wx ∧ w.heap.size ≤ g5 ∧ wx.ownsRow w.heap.size 37 1 (.slice (some ⟨g5, 0, none⟩) len c5) len (u64s ys))
            case first =>
              go_wp2
              go_meet
              have hgw := HG5.out
              have hlw := HR.out.low.size
              refine ⟨g5, c5, ((HR5.out.setR 1 (.slice (some ⟨g5, 0, none⟩) len c5)).setU 7 (.bool true)).setU 8 (.int .u64 cnt), by omega, ?_⟩
              refine own_part (S := [b0, b1]) (ownsRow_base HO5.out hlw) ?_ (fun z hz => by simp [Value.ownBlock] at hz ⊢; omega)
              repeat (first | (with_reducible exact Part.refl _ _) | refine Part.set ?_ (by simp) _)
            case rest =>
              obtain ⟨g5, c5, hP, hg5, ho5⟩ := hcut
              have HR := Lib.hid hP
              have HO5 := Lib.hid ho5
              have HG5 : Hid (w.heap.size ≤ g5) := Lib.hid hg5
              clear gt0 gt1 gt2 gt3 gt4 x0 x1 x2 x3 x4 y01 y02 y03 y04 y10 y12 y13 y14 y20 y21 y23 y24 y30 y31 y32 y34 y40 y41 y42 y43 w0 w1 v0 v1 v2 v3 v4 v5 v6 v7 v8 v9 r0 r1 q0 q1 q2 q3 q4 q5 q6 q7 q8 q9 z0 z1 z2 z3 z4 wf uf rf qf zf
              obtain ⟨gt0, gt1, gt2, gt3, gt4⟩ := hP.gt
              have x0 := hP.r.lt
              have x1 := hP.u.lt
              have x2 := hP.rr.lt
              have x3 := hP.ru.lt
              have x4 := hP.rd.lt
              have y01 : ¬ b0 = b1 := by omega
              have y02 : ¬ b0 = b2 := by omega
              have y03 : ¬ b0 = b3 := by omega
              have y04 : ¬ b0 = b4 := by omega
              have y10 : ¬ b1 = b0 := by omega
              have y12 : ¬ b1 = b2 := by omega
              have y13 : ¬ b1 = b3 := by omega
              have y14 : ¬ b1 = b4 := by omega
              have y20 : ¬ b2 = b0 := by omega
              have y21 : ¬ b2 = b1 := by omega
              have y23 : ¬ b2 = b3 := by omega
              have y24 : ¬ b2 = b4 := by omega
              have y30 : ¬ b3 = b0 := by omega
              have y31 : ¬ b3 = b1 := by omega
              have y32 : ¬ b3 = b2 := by omega
              have y34 : ¬ b3 = b4 := by omega
              have y40 : ¬ b4 = b0 := by omega
              have y41 : ¬ b4 = b1 := by omega
              have y42 : ¬ b4 = b2 := by omega
              have y43 : ¬ b4 = b3 := by omega
              have hu := hP.u
              have hru := hP.ru
              have hrd := hP.rd
              unfold undN at hu
              unfold undNO at hru
              unfold didNO at hrd
              obtain ⟨w0, w1⟩ := hP.r.two2
              obtain ⟨v0, v1, v2, v3, v4, v5, v6, v7, v8, v9⟩ := hu.ten
              obtain ⟨r0, r1⟩ := hP.rr.two2
              obtain ⟨q0, q1, q2, q3, q4, q5, q6, q7, q8, q9⟩ := hru.ten
              obtain ⟨z0, z1, z2, z3, z4⟩ := hrd.five6
              have wf := hP.r.free
              have uf := hP.u.free
              have rf := hP.rr.free
              have qf := hP.ru.free
              have zf := hP.rd.free
              clear hu hru hrd
              have h25 : b2 ≠ g5 := fun e => own_off ho5 hP.rr (by decide) g5 rfl e.symm
              have h35 : b3 ≠ g5 := fun e => own_off ho5 hP.ru (by decide) g5 rfl e.symm
              have h45 : b4 ≠ g5 := fun e => own_off ho5 hP.rd (by decide) g5 rfl e.symm
              clear hP hg5 ho5
              go_wp2
              go_region
              all_goals
                go_wp2
                refine bodyPost_ret (v := .tuple #[.agg #[.int .i64 wd, .slice (some ⟨g5, 0, none⟩) len c5], .agg #[.int .u8 1, .int .i64 t, .int .u64 nn, .bool false, .bool false, .int .u64 x, .int .i64 0, .bool true, .int .u64 cnt, .int .i64 0], .agg #[.int .u8 5, .int .i64 (i : Int), .int .u64 x, .int .u64 y, .bool true]]) (by simp [results, Try.results12, go_sem, r0, r1, q0, q1, q2, q3, q4, q5, q6, q7, q8, q9, z0, z1, z2, z3, z4]) rfl ⟨g5, c5, rfl, HG5.out, ?_, ?_⟩
                · refine own_part (S := [b2, b3, b4]) HO5.out ?_ (fun z hz => by simp [Value.ownBlock] at hz ⊢; omega)
                  repeat (first | (with_reducible exact Part.refl _ _) | (with_reducible refine Part.drew ?_) | (with_reducible refine Part.drewN ?_ _) | refine Part.set ?_ (by simp) _)
                repeat (first | (with_reducible exact HR.out.low) | (with_reducible refine Below.drew ?_) | (with_reducible refine Below.draws ?_ _) | refine Below.setCell ?_ (by (try simp); omega) _)
end Go.Proofs.Ytjehcgeodcpcaaa
