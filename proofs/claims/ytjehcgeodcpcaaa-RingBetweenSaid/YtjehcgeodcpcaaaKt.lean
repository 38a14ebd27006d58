/- THE WALKS of the document's Step of a ring: of a sum, of what has ended. -/
import Derived.Test.YtjehcgeodcpcaaaKs
namespace Go.Proofs.Ytjehcgeodcpcaaa
open Go Go.RowKit

set_option maxRecDepth 100000
set_option maxHeartbeats 6400000

theorem dstep_sum {w : World} {A : Option Addr} {len c i q cur : Nat} {ws : List Int} {wd t x nx sm sm' : Int} {bg en' : Bool} (hen : decide ((q : Int) < (cur : Int) + 1) = en') (h : LiesU w A ws) (hp : 0 < len) (hl : len ≤ 4096) (hw : 1 ≤ wd) (hf : FineN wd 2 t 0 q) (hcur : cur ≤ q) (hnx : (bg = true ∧ nx = (cur : Int)) ∨ (bg = false ∧ nx = 0 ∧ q + 1 - len = cur)) (hi : cur % len = i) (hx : ws[i]? = some x) (hux : U64 x) (hs0 : 0 ≤ sm) (hs1 : sm ≤ 17587891077120) (hsm : sm + cntN x (cur : Int) = sm') :
    Calls Try.prog 12 #[.agg #[.int .i64 wd, .slice A len c], .agg (undN 2 t 0 bg false 0 nx false sm 0).toArray] w fun e w' => e = .returned (.tuple #[.agg #[.int .i64 wd, .slice A len c], .agg (undN 2 t 0 true false 0 ((cur : Int) + 1) en' sm' 0).toArray, .agg #[.int .u8 1, .int .i64 (i : Int), .int .u64 x, .int .u64 x, .bool true]]) ∧ Below w.heap.size w w' := by
  have HB := Lib.hid (stpR_begin w [.int .i64 wd, .slice A len c] (undN 2 t 0 bg false 0 nx false sm 0))
  have HQ : Hid (Go.RowKit.wrap64 (t.tdiv wd) = (q : Int)) := Lib.hid (by rw [Int.tdiv_eq_ediv_of_nonneg hf.t0, hf.tick]; have := hf.top; unfold Go.RowKit.wrap64; omega)
  have hq1 := hf.top
  have hwd0 : ¬ wd = 0 := by omega
  have HC := Lib.hid (fun W (hb : Below w.heap.size w W) => dsum_any (c := c) (wd := wd) (t := t) hen (h.below hb) hp hl hq1 hcur hnx hi hx hux hs0 hs1 hsm)
  clear hen h hf hnx hi hx hux hsm
  unfold undN at HC ⊢
  go_enter Try.func12, Try.ntmps12
  go_upto_region 3 with fail
  go_cut [7] (fun s7 wx => s7 = .int .i64 (q : Int) ∧ ∃ b0 b1 b2 b3 b4, b0 = w.heap.size ∧ b1 = w.heap.size + 1 ∧ b2 = w.heap.size + 1 + 1 ∧ b3 = w.heap.size + 1 + 1 + 1 ∧ b4 = w.heap.size + 1 + 1 + 1 + 1 ∧ StpR w b0 b1 b2 b3 b4 [.int .i64 wd, .slice A len c] (undN 2 t 0 bg false 0 nx false sm 0) wx)
  case first =>
    go_wp2
    go_meet
    exact ⟨by rw [HQ.out], _, _, _, _, _, rfl, rfl, rfl, rfl, rfl, HB.out⟩
  case rest =>
    obtain ⟨rfl, b0, b1, b2, b3, b4, hb0, hb1, hb2, hb3, hb4, hP⟩ := hcut
    rw [← hb4, ← hb3, ← hb2, ← hb1, ← hb0]
    have HR := Lib.hid hP
    obtain ⟨gt0, gt1, gt2, gt3, gt4⟩ := hP.gt
    have x0 := hP.r.lt
    have x1 := hP.u.lt
    have x2 := hP.rr.lt
    have x3 := hP.ru.lt
    have x4 := hP.rd.lt
    have y01 : ¬ b0 = b1 := by omega
    have y02 : ¬ b0 = b2 := by omega
    have y03 : ¬ b0 = b3 := by omega
    have y04 : ¬ b0 = b4 := by omega
    have y10 : ¬ b1 = b0 := by omega
    have y12 : ¬ b1 = b2 := by omega
    have y13 : ¬ b1 = b3 := by omega
    have y14 : ¬ b1 = b4 := by omega
    have y20 : ¬ b2 = b0 := by omega
    have y21 : ¬ b2 = b1 := by omega
    have y23 : ¬ b2 = b3 := by omega
    have y24 : ¬ b2 = b4 := by omega
    have y30 : ¬ b3 = b0 := by omega
    have y31 : ¬ b3 = b1 := by omega
    have y32 : ¬ b3 = b2 := by omega
    have y34 : ¬ b3 = b4 := by omega
    have y40 : ¬ b4 = b0 := by omega
    have y41 : ¬ b4 = b1 := by omega
    have y42 : ¬ b4 = b2 := by omega
    have y43 : ¬ b4 = b3 := by omega
    have hu := hP.u
    have hru := hP.ru
    have hrd := hP.rd
    unfold undN at hu
    unfold undNO at hru
    unfold didNO at hrd
    obtain ⟨w0, w1⟩ := hP.r.two2
    obtain ⟨v0, v1, v2, v3, v4, v5, v6, v7, v8, v9⟩ := hu.ten
    obtain ⟨r0, r1⟩ := hP.rr.two2
    obtain ⟨q0, q1, q2, q3, q4, q5, q6, q7, q8, q9⟩ := hru.ten
    obtain ⟨z0, z1, z2, z3, z4⟩ := hrd.five6
    have wf := hP.r.free
    have uf := hP.u.free
    have rf := hP.rr.free
    have qf := hP.ru.free
    have zf := hP.rd.free
    clear hu hru hrd
    clear hP hb0 hb1 hb2 hb3 hb4
    go_wp2_with (go_at_call 30; refine (HC.out wc HR.out.low).mono ?_; rintro e w4 ⟨rfl, hb4⟩; have hs4 := HR.out.on hb4; have HS4 := Lib.hid hs4; obtain ⟨a0, a1⟩ := hs4.rr.two2; have af := hs4.rr.free; have alt := hs4.rr.lt; have hru4 := hs4.ru; unfold undNO at hru4; obtain ⟨m0, m1, m2, m3, m4, m5, m6, m7, m8, m9⟩ := hru4.ten; have mf := hs4.ru.free; have mlt := hs4.ru.lt; have hrd4 := hs4.rd; unfold didNO at hrd4; obtain ⟨e0, e1, e2, e3, e4⟩ := hrd4.five6; have ef := hs4.rd.free; have elt := hs4.rd.lt; clear hs4 hru4 hrd4 hb4)
    refine bodyPost_ret (v := .tuple #[.agg #[.int .i64 wd, .slice A len c], .agg #[.int .u8 2, .int .i64 t, .int .u64 0, .bool true, .bool false, .int .u64 0, .int .i64 ((cur : Int) + 1), .bool en', .int .u64 sm', .int .i64 0], .agg #[.int .u8 1, .int .i64 (i : Int), .int .u64 x, .int .u64 x, .bool true]]) (by simp [results, Try.results12, go_sem, a0, a1, m0, m1, m2, m3, m4, m5, m6, m7, m8, m9, e0, e1, e2, e3, e4]) rfl ⟨rfl, ?_⟩
    repeat (first | (with_reducible exact HS4.out.low) | (with_reducible refine Below.drew ?_) | (with_reducible refine Below.draws ?_ _) | refine Below.setCell ?_ (by (try simp); omega) _)
theorem dstep_over {w : World} {A : Option Addr} {len c : Nat} {wd k t nn saw nx sm why : Int} {bg ld : Bool} :
    Calls Try.prog 12 #[.agg #[.int .i64 wd, .slice A len c], .agg (undN k t nn bg ld saw nx true sm why).toArray] w fun e w' => e = .returned (.tuple #[.agg #[.int .i64 wd, .slice A len c], .agg (undN k t nn bg ld saw nx true sm why).toArray, .agg #[.int .u8 0, .int .i64 0, .int .u64 0, .int .u64 0, .bool false]]) ∧ Below w.heap.size w w' := by
  have HB := Lib.hid (stpR_begin w [.int .i64 wd, .slice A len c] (undN k t nn bg ld saw nx true sm why))
  unfold undN
  go_enter Try.func12, Try.ntmps12
  go_upto_region 1 with fail
  go_cut [15] (fun s15 wx => s15 = .bool true ∧ ∃ b0 b1 b2 b3 b4, b0 = w.heap.size ∧ b1 = w.heap.size + 1 ∧ b2 = w.heap.size + 1 + 1 ∧ b3 = w.heap.size + 1 + 1 + 1 ∧ b4 = w.heap.size + 1 + 1 + 1 + 1 ∧ StpR w b0 b1 b2 b3 b4 [.int .i64 wd, .slice A len c] (undN k t nn bg ld saw nx true sm why) wx)
  case first =>
    go_wp2
    go_meet
    exact ⟨rfl, _, _, _, _, _, rfl, rfl, rfl, rfl, rfl, HB.out⟩
  case rest =>
    obtain ⟨rfl, b0, b1, b2, b3, b4, hb0, hb1, hb2, hb3, hb4, hP⟩ := hcut
    rw [← hb4, ← hb3, ← hb2, ← hb1, ← hb0]
    have HR := Lib.hid hP
    obtain ⟨gt0, gt1, gt2, gt3, gt4⟩ := hP.gt
    have x0 := hP.r.lt
    have x1 := hP.u.lt
    have x2 := hP.rr.lt
    have x3 := hP.ru.lt
    have x4 := hP.rd.lt
    have y01 : ¬ b0 = b1 := by omega
    have y02 : ¬ b0 = b2 := by omega
    have y03 : ¬ b0 = b3 := by omega
    have y04 : ¬ b0 = b4 := by omega
    have y10 : ¬ b1 = b0 := by omega
    have y12 : ¬ b1 = b2 := by omega
    have y13 : ¬ b1 = b3 := by omega
    have y14 : ¬ b1 = b4 := by omega
    have y20 : ¬ b2 = b0 := by omega
    have y21 : ¬ b2 = b1 := by omega
    have y23 : ¬ b2 = b3 := by omega
    have y24 : ¬ b2 = b4 := by omega
    have y30 : ¬ b3 = b0 := by omega
    have y31 : ¬ b3 = b1 := by omega
    have y32 : ¬ b3 = b2 := by omega
    have y34 : ¬ b3 = b4 := by omega
    have y40 : ¬ b4 = b0 := by omega
    have y41 : ¬ b4 = b1 := by omega
    have y42 : ¬ b4 = b2 := by omega
    have y43 : ¬ b4 = b3 := by omega
    have hu := hP.u
    have hru := hP.ru
    have hrd := hP.rd
    unfold undN at hu
    unfold undNO at hru
    unfold didNO at hrd
    obtain ⟨w0, w1⟩ := hP.r.two2
    obtain ⟨v0, v1, v2, v3, v4, v5, v6, v7, v8, v9⟩ := hu.ten
    obtain ⟨r0, r1⟩ := hP.rr.two2
    obtain ⟨q0, q1, q2, q3, q4, q5, q6, q7, q8, q9⟩ := hru.ten
    obtain ⟨z0, z1, z2, z3, z4⟩ := hrd.five6
    have wf := hP.r.free
    have uf := hP.u.free
    have rf := hP.rr.free
    have qf := hP.ru.free
    have zf := hP.rd.free
    clear hu hru hrd
    clear hP hb0 hb1 hb2 hb3 hb4
    go_wp2
    go_region
    all_goals
      go_wp2
      refine bodyPost_ret (v := .tuple #[.agg #[.int .i64 wd, .slice A len c], .agg #[.int .u8 k, .int .i64 t, .int .u64 nn, .bool bg, .bool ld, .int .u64 saw, .int .i64 nx, .bool true, .int .u64 sm, .int .i64 why], .agg #[.int .u8 0, .int .i64 0, .int .u64 0, .int .u64 0, .bool false]]) (by simp [results, Try.results12, go_sem, r0, r1, q0, q1, q2, q3, q4, q5, q6, q7, q8, q9, z0, z1, z2, z3, z4]) rfl ⟨rfl, ?_⟩
      repeat (first | (with_reducible exact HR.out.low) | (with_reducible refine Below.drew ?_) | (with_reducible refine Below.draws ?_ _) | refine Below.setCell ?_ (by (try simp); omega) _)

end Go.Proofs.Ytjehcgeodcpcaaa
