/- THE DOCUMENT'S OWN put: a swap that misses. -/
import Derived.Test.YtdadgppbpomdoaaQb
namespace Go.Proofs.Ytdadgppbpomdoaa
open Go Go.RowKit
set_option maxRecDepth 100000
set_option maxHeartbeats 6400000
theorem dput_miss {w : World} {A : Option Addr} {n c i : Nat} {xs : List Int} {x v saw : Int} (h : LiesU w A xs) (hn : xs.length = n) (hx : xs[i]? = some x) (hne : ¬ x = saw) :
    Calls Try.prog 33 #[.slice A n c, .agg (undD 1 i v 0 true saw 0 (.slice none 0 0) (.slice none 0 0) false (.slice none 0 0) false 0).toArray] w fun e w' =>
      e = .returned (.tuple #[.slice A n c, .agg (undD 1 i v 0 false saw 0 (.slice none 0 0) (.slice none 0 0) false (.slice none 0 0) false 0).toArray, .agg #[.int .u8 5, .int .i64 (i : Int), .int .u64 x, .int .u64 x, .bool false]]) ∧ Below w.heap.size w w' := by
  have hin := lt_of_get hx
  have HP := Lib.hid (putR_begin h (undD 1 i v 0 true saw 0 (.slice none 0 0) (.slice none 0 0) false (.slice none 0 0) false 0) [.int .u8 1, .int .i64 (i : Int), .int .u64 x, .int .u64 x, .bool true])
  have HX := Lib.hid hx
  obtain ⟨g, rfl, hg, hc⟩ := h i x hx
  have hlt : (i : Int) < (n : Int) := by omega
  have hxs : (x == saw) = false := by simpa using hne
  clear hne
  clear h hx hin
  unfold undD
  go_enter Try.func33, Try.ntmps33
  go_upto_region 2 with fail
  go_cut [8] (fun s8 wx => ∃ b0 b1 b2 b3, s8 = .pointer (some ⟨b3, 0, none⟩) ∧ b0 = w.heap.size ∧ b1 = w.heap.size + 1 ∧ b2 = w.heap.size + 1 + 1 ∧ PutR w (some ⟨g, 0, none⟩) xs b0 b1 b2 b3 (undD 1 i v 0 true saw 0 (.slice none 0 0) (.slice none 0 0) false (.slice none 0 0) false 0) [.int .u8 1, .int .i64 (i : Int), .int .u64 x, .int .u64 x, .bool true] wx)
  case first =>
    go_region_held3 (fun w' => w'.cell? ⟨g, i, none⟩ = some (.int .u64 x)) (first | exact put3_cell hg hc _ | exact put4_cell hg hc _ _ | go_keep) (first | fail)
    all_goals
      go_wp2_with fail
      go_meet
      exact ⟨_, _, _, _, rfl, rfl, rfl, rfl, HP.out.drew⟩
  case rest =>
    obtain ⟨b0, b1, b2, b3, rfl, hb0, hb1, hb2, hP⟩ := hcut
    rw [← hb2, ← hb1, ← hb0]
    have HR := Lib.hid hP
    obtain ⟨gt0, gt1, gt2, gt3⟩ := hP.gt
    have x0 := hP.u.lt
    have x1 := hP.ru.lt
    have x2 := hP.rd.lt
    have x3 := hP.d.lt
    have y10 : ¬ b1 = b0 := by omega
    have y20 : ¬ b2 = b0 := by omega
    have y12 : ¬ b1 = b2 := by omega
    have y21 : ¬ b2 = b1 := by omega
    have y13 : ¬ b1 = b3 := by omega
    have y23 : ¬ b2 = b3 := by omega
    have y01 : ¬ b0 = b1 := by omega
    have y02 : ¬ b0 = b2 := by omega
    have y03 : ¬ b0 = b3 := by omega
    have y30 : ¬ b3 = b0 := by omega
    have hu := hP.u
    have hru := hP.ru
    have hrd := hP.rd
    unfold undD at hu
    unfold undO undD at hru
    unfold didO at hrd
    obtain ⟨v0, v1, v2, v3, v4, v5, v6, v7, v8, v9, v10, v11, v12⟩ := hu.thirteen
    obtain ⟨q0, q1, q2, q3, q4, q5, q6, q7, q8, q9, q10, q11, q12⟩ := hru.thirteen
    obtain ⟨z0, z1, z2, z3, z4⟩ := hrd.five6
    obtain ⟨e0, e1, e2, e3, e4⟩ := hP.d.five6
    have uf := hP.u.free
    have qf := hP.ru.free
    have zf := hP.rd.free
    obtain ⟨g', hgg, hglt, hcx⟩ := hP.cells i x HX.out
    cases hgg
    have g0 : ¬ b0 = g := by omega
    have g1 : ¬ g = b0 := by omega
    have df := HR.out.d.free
    have g3 : ¬ g = b3 := by have := HR.out.gt; omega
    have g4 : ¬ b3 = g := by omega
    clear hP hu hru hrd hb0 hb1 hb2
    go_wp2
    go_region
    go_wp2
    go_region
    all_goals
      go_wp2
      refine bodyPost_ret (v := .tuple #[.slice (some ⟨g, 0, none⟩) n c, .agg #[.int .u8 1, .int .i64 (i : Int), .int .u32 v, .int .i64 0, .bool false, .int .u64 saw, .int .i64 0, .slice none 0 0, .slice none 0 0, .bool false, .slice none 0 0, .bool false, .int .i64 0], .agg #[.int .u8 5, .int .i64 (i : Int), .int .u64 x, .int .u64 x, .bool false]]) (by simp [results, Try.results33, go_sem, q0, q1, q2, q3, q4, q5, q6, q7, q8, q9, q10, q11, q12, z0, z1, z2, z3, z4, y10, y20, y12, y21]) rfl ⟨rfl, ?_⟩
      repeat (first | (with_reducible exact HR.out.low) | (with_reducible refine Below.drew ?_) | (with_reducible refine Below.draws ?_ _) | refine Below.setCell ?_ (by (try simp); omega) _)
end Go.Proofs.Ytdadgppbpomdoaa
