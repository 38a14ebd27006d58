/- THE WALKS of the document's Step of a ring: an add. -/
import Derived.Test.YtjehcgeodcpcaaaKp
namespace Go.Proofs.Ytjehcgeodcpcaaa
open Go Go.RowKit

set_option maxRecDepth 100000
set_option maxHeartbeats 6400000

theorem dadd_load {w : World} {A : Option Addr} {len c i q : Nat} {ws : List Int} {wd t nn x : Int} (h : LiesU w A ws) (hp : 0 < len) (hl : len ≤ 4096) (hw : 1 ≤ wd) (hw2 : wd ≤ 1152921504606846976) (_ht : t ≤ 9223372036854775807) (hf : FineN wd 1 t nn q) (hi : q % len = i) (hx : ws[i]? = some x) (hux : U64 x) {saw : Int} {en' : Bool} {why' : Int} (ho : ((q : Int) < x / 4294967296 ∧ en' = true ∧ why' = 50) ∨ (¬ (q : Int) < x / 4294967296 ∧ 4294967295 < cntN x (q : Int) + nn ∧ en' = true ∧ why' = 51) ∨ (¬ (q : Int) < x / 4294967296 ∧ ¬ 4294967295 < cntN x (q : Int) + nn ∧ en' = false ∧ why' = 0)) :
    Calls Try.prog 12 #[.agg #[.int .i64 wd, .slice A len c], .agg (undN 1 t nn false false saw 0 false 0 0).toArray] w fun e w' => e = .returned (.tuple #[.agg #[.int .i64 wd, .slice A len c], .agg (undN 1 t nn false true x 0 en' 0 why').toArray, .agg #[.int .u8 1, .int .i64 (i : Int), .int .u64 x, .int .u64 x, .bool true]]) ∧ Below w.heap.size w w' := by
  have HB := Lib.hid (stpR_begin w [.int .i64 wd, .slice A len c] (undN 1 t nn false false saw 0 false 0 0))
  have HO := Lib.hid ho
  clear ho
  have q0 := hf.t0
  have HQ : Hid (Go.RowKit.wrap64 (t.tdiv wd) = (q : Int)) := Lib.hid (by rw [Int.tdiv_eq_ediv_of_nonneg hf.t0, hf.tick]; have := hf.top; unfold Go.RowKit.wrap64; omega)
  have hq1 := hf.top
  have hux0 := hux.1
  have hux1 := hux.2
  have hnn0 := hf.right.2.1
  have hnn1 := hf.right.2.2.1
  have hwd0 : ¬ wd = 0 := by omega
  have HL := Lib.hid h
  have HX := Lib.hid hx
  have HI := Lib.hid hi
  have hil : i < len := by rw [← hi]; exact Nat.mod_lt _ hp
  have hil2 : (i : Int) < (len : Int) := by omega
  have hlen0 : ¬ (len : Int) = 0 := by omega
  obtain ⟨g, rfl, hg, _⟩ := h i x hx
  have hA := and32 hux
  clear q0 h hx hi hf hux
  unfold undN
  go_enter Try.func12, Try.ntmps12
  go_upto_region 3 with fail
  go_cut [7] (fun s7 wx => s7 = .int .i64 (q : Int) ∧ ∃ b0 b1 b2 b3 b4, b0 = w.heap.size ∧ b1 = w.heap.size + 1 ∧ b2 = w.heap.size + 1 + 1 ∧ b3 = w.heap.size + 1 + 1 + 1 ∧ b4 = w.heap.size + 1 + 1 + 1 + 1 ∧ StpR w b0 b1 b2 b3 b4 [.int .i64 wd, .slice (some ⟨g, 0, none⟩) len c] (undN 1 t nn false false saw 0 false 0 0) wx)
  case first =>
    go_wp2
    go_meet
    exact ⟨by rw [HQ.out], _, _, _, _, _, rfl, rfl, rfl, rfl, rfl, HB.out⟩
  case rest =>
    obtain ⟨rfl, b0, b1, b2, b3, b4, hb0, hb1, hb2, hb3, hb4, hP⟩ := hcut
    rw [← hb4, ← hb3, ← hb2, ← hb1, ← hb0]
    have HR := Lib.hid hP
    obtain ⟨gt0, gt1, gt2, gt3, gt4⟩ := hP.gt
    have x0 := hP.r.lt
    have x1 := hP.u.lt
    have x2 := hP.rr.lt
    have x3 := hP.ru.lt
    have x4 := hP.rd.lt
    have y01 : ¬ b0 = b1 := by omega
    have y02 : ¬ b0 = b2 := by omega
    have y03 : ¬ b0 = b3 := by omega
    have y04 : ¬ b0 = b4 := by omega
    have y10 : ¬ b1 = b0 := by omega
    have y12 : ¬ b1 = b2 := by omega
    have y13 : ¬ b1 = b3 := by omega
    have y14 : ¬ b1 = b4 := by omega
    have y20 : ¬ b2 = b0 := by omega
    have y21 : ¬ b2 = b1 := by omega
    have y23 : ¬ b2 = b3 := by omega
    have y24 : ¬ b2 = b4 := by omega
    have y30 : ¬ b3 = b0 := by omega
    have y31 : ¬ b3 = b1 := by omega
    have y32 : ¬ b3 = b2 := by omega
    have y34 : ¬ b3 = b4 := by omega
    have y40 : ¬ b4 = b0 := by omega
    have y41 : ¬ b4 = b1 := by omega
    have y42 : ¬ b4 = b2 := by omega
    have y43 : ¬ b4 = b3 := by omega
    have hu := hP.u
    have hru := hP.ru
    have hrd := hP.rd
    unfold undN at hu
    unfold undNO at hru
    unfold didNO at hrd
    obtain ⟨w0, w1⟩ := hP.r.two2
    obtain ⟨v0, v1, v2, v3, v4, v5, v6, v7, v8, v9⟩ := hu.ten
    obtain ⟨r0, r1⟩ := hP.rr.two2
    obtain ⟨q0, q1, q2, q3, q4, q5, q6, q7, q8, q9⟩ := hru.ten
    obtain ⟨z0, z1, z2, z3, z4⟩ := hrd.five6
    have wf := hP.r.free
    have uf := hP.u.free
    have rf := hP.rr.free
    have qf := hP.ru.free
    have zf := hP.rd.free
    clear hu hru hrd
    obtain ⟨g', hgg, _, hcx⟩ := (HL.out.below hP.low) i x HX.out
    cases hgg
    have hgl : g < wc.heap.size := Nat.lt_of_lt_of_le hg hP.low.size
    have ng1 : ¬ g = b1 := by omega
    have ng1' : ¬ b1 = g := by omega
    clear hP hb0 hb1 hb2 hb3 hb4
    go_upto_region 6 with fail
    go_cut [8] (fun s8 wx => s8 = .int .i64 (i : Int) ∧ wx = wc)
    case first =>
      go_wp2
      go_meet
      exact ⟨by rw [← HI.out, Int.natCast_emod], rfl⟩
    case rest =>
      obtain ⟨rfl, rfl⟩ := hcut
      go_upto_if 59 with fail
      go_cut [] (fun wx => StpR w b0 b1 b2 b3 b4 [.int .i64 wd, .slice (some ⟨g, 0, none⟩) len c] (undN 1 t nn false true x 0 en' 0 why') wx)
      case first =>
        rcases HO.out with ⟨o1, rfl, rfl⟩ | ⟨o1, o2, rfl, rfl⟩ | ⟨o1, o2, rfl, rfl⟩
        · go_wp2
          go_meet
          exact (((HR.out.setU 4 (.bool true)).setU 5 (.int .u64 x)).setU 7 (.bool true)).setU 9 (.int .i64 50)
        · by_cases e : x / 4294967296 = (q : Int)
          · have d2 : (x / 4294967296 == (q : Int)) = true := by simpa using e
            unfold cntN at o2
            rw [if_pos e] at o2
            have d3 : decide (4294967295 < x % 4294967296 + nn) = true := by simpa using o2
            clear o2 e
            go_wp2
            go_meet
            exact (((HR.out.setU 4 (.bool true)).setU 5 (.int .u64 x)).setU 7 (.bool true)).setU 9 (.int .i64 51)
          · unfold cntN at o2
            rw [if_neg e] at o2
            omega
        · by_cases e : x / 4294967296 = (q : Int)
          · have d2 : (x / 4294967296 == (q : Int)) = true := by simpa using e
            unfold cntN at o2
            rw [if_pos e] at o2
            have d3 : decide (4294967295 < x % 4294967296 + nn) = false := by simpa using o2
            clear o2 e
            go_wp2
            go_meet
            exact (HR.out.setU 4 (.bool true)).setU 5 (.int .u64 x)
          · have d2 : (x / 4294967296 == (q : Int)) = false := by simpa using e
            clear o2 e
            go_wp2
            go_meet
            exact (HR.out.setU 4 (.bool true)).setU 5 (.int .u64 x)
      case rest =>
        have hP := hcut
        have HR := Lib.hid hP
        clear gt0 gt1 gt2 gt3 gt4 x0 x1 x2 x3 x4 y01 y02 y03 y04 y10 y12 y13 y14 y20 y21 y23 y24 y30 y31 y32 y34 y40 y41 y42 y43 w0 w1 v0 v1 v2 v3 v4 v5 v6 v7 v8 v9 r0 r1 q0 q1 q2 q3 q4 q5 q6 q7 q8 q9 z0 z1 z2 z3 z4 wf uf rf qf zf
        obtain ⟨gt0, gt1, gt2, gt3, gt4⟩ := hP.gt
        have x0 := hP.r.lt
        have x1 := hP.u.lt
        have x2 := hP.rr.lt
        have x3 := hP.ru.lt
        have x4 := hP.rd.lt
        have y01 : ¬ b0 = b1 := by omega
        have y02 : ¬ b0 = b2 := by omega
        have y03 : ¬ b0 = b3 := by omega
        have y04 : ¬ b0 = b4 := by omega
        have y10 : ¬ b1 = b0 := by omega
        have y12 : ¬ b1 = b2 := by omega
        have y13 : ¬ b1 = b3 := by omega
        have y14 : ¬ b1 = b4 := by omega
        have y20 : ¬ b2 = b0 := by omega
        have y21 : ¬ b2 = b1 := by omega
        have y23 : ¬ b2 = b3 := by omega
        have y24 : ¬ b2 = b4 := by omega
        have y30 : ¬ b3 = b0 := by omega
        have y31 : ¬ b3 = b1 := by omega
        have y32 : ¬ b3 = b2 := by omega
        have y34 : ¬ b3 = b4 := by omega
        have y40 : ¬ b4 = b0 := by omega
        have y41 : ¬ b4 = b1 := by omega
        have y42 : ¬ b4 = b2 := by omega
        have y43 : ¬ b4 = b3 := by omega
        have hu := hP.u
        have hru := hP.ru
        have hrd := hP.rd
        unfold undN at hu
        unfold undNO at hru
        unfold didNO at hrd
        obtain ⟨w0, w1⟩ := hP.r.two2
        obtain ⟨v0, v1, v2, v3, v4, v5, v6, v7, v8, v9⟩ := hu.ten
        obtain ⟨r0, r1⟩ := hP.rr.two2
        obtain ⟨q0, q1, q2, q3, q4, q5, q6, q7, q8, q9⟩ := hru.ten
        obtain ⟨z0, z1, z2, z3, z4⟩ := hrd.five6
        have wf := hP.r.free
        have uf := hP.u.free
        have rf := hP.rr.free
        have qf := hP.ru.free
        have zf := hP.rd.free
        clear hu hru hrd
        clear hP hcut
        go_wp2
        go_region
        all_goals
          go_wp2
          refine bodyPost_ret (v := .tuple #[.agg #[.int .i64 wd, .slice (some ⟨g, 0, none⟩) len c], .agg #[.int .u8 1, .int .i64 t, .int .u64 nn, .bool false, .bool true, .int .u64 x, .int .i64 0, .bool en', .int .u64 0, .int .i64 why'], .agg #[.int .u8 1, .int .i64 (i : Int), .int .u64 x, .int .u64 x, .bool true]]) (by simp [results, Try.results12, go_sem, r0, r1, q0, q1, q2, q3, q4, q5, q6, q7, q8, q9, z0, z1, z2, z3, z4]) rfl ⟨rfl, ?_⟩
          repeat (first | (with_reducible exact HR.out.low) | (with_reducible refine Below.drew ?_) | (with_reducible refine Below.draws ?_ _) | refine Below.setCell ?_ (by (try simp); omega) _)
end Go.Proofs.Ytjehcgeodcpcaaa
