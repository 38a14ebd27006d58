/- THE WALKS of the document's own answer for gauges: Step, of one that has ended, and a swap that misses. -/
import Derived.Test.YtcocegneegjcpaaGr
namespace Go.Proofs.Ytcocegneegjcpaa
open Go Go.RowKit

set_option maxRecDepth 100000
set_option maxHeartbeats 3200000
theorem rgstep_over {T x a : Nat} {k s : Int} {l : Bool} (w : World) :
    Calls Try.prog 13 #[.int .u64 (T : Nat), .agg #[.int .u8 k, .float .f64 x, .bool l, .int .u64 s, .bool true, .float .f64 a]] w fun e w' => e = .returned (.tuple #[.int .u64 ((T : Nat)), .agg #[.int .u8 k, .float .f64 x, .bool l, .int .u64 s, .bool true, .float .f64 a], .agg #[.int .u8 0, .int .i64 0, .int .u64 0, .int .u64 0, .bool false]]) ∧ Below w.heap.size w w' := by
  have st := run_store_float
  go_enter Try.func13, Try.ntmps13
  go_upto_region 1 with (fail)
  go_cut [3, 5, 6, 13] (fun s3 s5 s6 s13 wz => ∃ b0 b1 b2, s3 = .pointer (some ⟨b0, 0, none⟩) ∧ s5 = .pointer (some ⟨b1, 0, none⟩) ∧ s6 = .pointer (some ⟨b2, 0, none⟩) ∧ s13 = .bool true ∧ StartP w b0 b1 b2 [.int .u8 k, .float .f64 x, .bool l, .int .u64 s, .bool true, .float .f64 a] wz)
  case first =>
    go_wp2_with (fail)
    go_meet
    exact ⟨_, _, _, rfl, rfl, rfl, rfl, startP_new w [.int .u8 k, .float .f64 x, .bool l, .int .u64 s, .bool true, .float .f64 a]⟩
  case rest =>
    obtain ⟨b0, b1, b2, rfl, rfl, rfl, rfl, hR⟩ := hcut
    have HU := Lib.hid hR.low
    have x0 := hR.u.lt
    have x1 := hR.ru.lt
    have x2 := hR.rd.lt
    obtain ⟨gt0, gt1, gt2⟩ := hR.gt
    have y01 : ¬ b0 = b1 := by omega
    have y02 : ¬ b0 = b2 := by omega
    have y10 : ¬ b1 = b0 := by omega
    have y12 : ¬ b1 = b2 := by omega
    have y20 : ¬ b2 = b0 := by omega
    have y21 : ¬ b2 = b1 := by omega
    obtain ⟨u0, u1, u2, u3, u4, u5⟩ := hR.u.sixg
    obtain ⟨q0, q1, q2, q3, q4, q5⟩ := hR.ru.sixg
    obtain ⟨z0, z1, z2, z3, z4⟩ := hR.rd.fiveg
    have uf := hR.u.free
    have qf := hR.ru.free
    have zf := hR.rd.free
    clear hR
    go_wp2_with (fail)
    go_region_held3 (fun w' => w'.cell? ⟨b0, 0, none⟩ = some (.int .u8 k) ∧ w'.cell? ⟨b0, 1, none⟩ = some (.float .f64 x) ∧ w'.cell? ⟨b0, 2, none⟩ = some (.bool l) ∧ w'.cell? ⟨b0, 3, none⟩ = some (.int .u64 s) ∧ w'.cell? ⟨b0, 4, none⟩ = some (.bool true) ∧ w'.cell? ⟨b0, 5, none⟩ = some (.float .f64 a))
      (first | (with_reducible exact ⟨u0, u1, u2, u3, u4, u5⟩) | go_keep)
      (first | fail)
    all_goals
      go_wp2_with fail
      refine bodyPost_ret (v := .tuple #[.int .u64 ((T : Nat)), .agg #[.int .u8 k, .float .f64 x, .bool l, .int .u64 s, .bool true, .float .f64 a], .agg #[.int .u8 0, .int .i64 0, .int .u64 0, .int .u64 0, .bool false]]) (by simp [results, Try.results13, go_sem, q0, q1, q2, q3, q4, q5, z0, z1, z2, z3, z4]) rfl ⟨rfl, ?_⟩
      repeat (first | (with_reducible exact HU.out) | (with_reducible refine Below.drew ?_) | (with_reducible refine Below.drewNg ?_ _) | refine Below.setCell ?_ (by (try simp); omega) _)
theorem rgstep_miss {T x a : Nat} {k s : Int} (e2 : (k == 2) = false) (hne : (((T : Nat) : Int) == s) = false) (w : World) :
    Calls Try.prog 13 #[.int .u64 (T : Nat), .agg #[.int .u8 k, .float .f64 x, .bool true, .int .u64 s, .bool false, .float .f64 a]] w fun e w' => e = .returned (.tuple #[.int .u64 ((T : Nat)), .agg #[.int .u8 k, .float .f64 x, .bool false, .int .u64 s, .bool false, .float .f64 a], .agg #[.int .u8 5, .int .i64 0, .int .u64 ((T : Nat)), .int .u64 ((T : Nat)), .bool false]]) ∧ Below w.heap.size w w' := by
  have st := run_store_float
  have HNE : Hid ((((T : Nat) : Int) != s) = true) := Lib.hid (by unfold bne; rw [hne]; rfl)
  clear hne
  go_enter Try.func13, Try.ntmps13
  go_upto_region 1 with (fail)
  go_cut [3, 5, 6, 13] (fun s3 s5 s6 s13 wz => ∃ b0 b1 b2, s3 = .pointer (some ⟨b0, 0, none⟩) ∧ s5 = .pointer (some ⟨b1, 0, none⟩) ∧ s6 = .pointer (some ⟨b2, 0, none⟩) ∧ s13 = .bool false ∧ StartP w b0 b1 b2 [.int .u8 k, .float .f64 x, .bool true, .int .u64 s, .bool false, .float .f64 a] wz)
  case first =>
    go_wp2_with (fail)
    go_meet
    exact ⟨_, _, _, rfl, rfl, rfl, rfl, startP_new w [.int .u8 k, .float .f64 x, .bool true, .int .u64 s, .bool false, .float .f64 a]⟩
  case rest =>
    obtain ⟨c0, c1, c2, rfl, rfl, rfl, rfl, hS⟩ := hcut
    have HS := Lib.hid hS
    obtain ⟨u0, u1, u2, u3, u4, u5⟩ := hS.u.sixg
    have uf := hS.u.free
    have ult := hS.u.lt
    clear hS
    go_upto_region 16 with (fail)
    go_cut [3, 5, 6] (fun s3 s5 s6 wz => ∃ b0 b1 b2, s3 = .pointer (some ⟨b0, 0, none⟩) ∧ s5 = .pointer (some ⟨b1, 0, none⟩) ∧ s6 = .pointer (some ⟨b2, 0, none⟩) ∧ StartP w b0 b1 b2 [.int .u8 k, .float .f64 x, .bool false, .int .u64 s, .bool false, .float .f64 a] wz)
    case first =>
      go_wp2_with (fail)
      go_meet
      exact ⟨_, _, _, rfl, rfl, rfl, HS.out.put 2 _⟩
    case rest =>
      obtain ⟨b0, b1, b2, rfl, rfl, rfl, hR⟩ := hcut
      have hne := HNE.out
      have HU := Lib.hid hR.low
      have x0 := hR.u.lt
      have x1 := hR.ru.lt
      have x2 := hR.rd.lt
      obtain ⟨gt0, gt1, gt2⟩ := hR.gt
      have y01 : ¬ b0 = b1 := by omega
      have y02 : ¬ b0 = b2 := by omega
      have y10 : ¬ b1 = b0 := by omega
      have y12 : ¬ b1 = b2 := by omega
      have y20 : ¬ b2 = b0 := by omega
      have y21 : ¬ b2 = b1 := by omega
      obtain ⟨u0, u1, u2, u3, u4, u5⟩ := hR.u.sixg
      obtain ⟨q0, q1, q2, q3, q4, q5⟩ := hR.ru.sixg
      obtain ⟨z0, z1, z2, z3, z4⟩ := hR.rd.fiveg
      have uf := hR.u.free
      have qf := hR.ru.free
      have zf := hR.rd.free
      clear hR
      go_wp2_with (fail)
      go_region_held3 (fun w' => w'.cell? ⟨b0, 0, none⟩ = some (.int .u8 k) ∧ w'.cell? ⟨b0, 1, none⟩ = some (.float .f64 x) ∧ w'.cell? ⟨b0, 2, none⟩ = some (.bool false) ∧ w'.cell? ⟨b0, 3, none⟩ = some (.int .u64 s) ∧ w'.cell? ⟨b0, 4, none⟩ = some (.bool false) ∧ w'.cell? ⟨b0, 5, none⟩ = some (.float .f64 a))
        (first | (with_reducible exact ⟨u0, u1, u2, u3, u4, u5⟩) | go_keep)
        (first | fail)
      all_goals
        go_wp2_with fail
        refine bodyPost_ret (v := .tuple #[.int .u64 ((T : Nat)), .agg #[.int .u8 k, .float .f64 x, .bool false, .int .u64 s, .bool false, .float .f64 a], .agg #[.int .u8 5, .int .i64 0, .int .u64 ((T : Nat)), .int .u64 ((T : Nat)), .bool false]]) (by simp [results, Try.results13, go_sem, q0, q1, q2, q3, q4, q5, z0, z1, z2, z3, z4]) rfl ⟨rfl, ?_⟩
        repeat (first | (with_reducible exact HU.out) | (with_reducible refine Below.drew ?_) | (with_reducible refine Below.drewNg ?_ _) | refine Below.setCell ?_ (by (try simp); omega) _)
end Go.Proofs.Ytcocegneegjcpaa
