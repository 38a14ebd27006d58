/- THE WALKS of the document's own answer for gauges: Do. -/
import Derived.Test.YtigknlipeipbgaaGr
import Derived.Test.YtigknlipeipbgaaGh
namespace Go.Proofs.Ytigknlipeipbgaa
open Go Go.RowKit

theorem Row.lastg {w : World} {t : TypeId} {l : List Value} {n : Nat} (hn : n = w.heap.size) : Row (w.alloc (.cells l.toArray t)) n t l := hn ▸ Row.new w t l
set_option maxRecDepth 100000
set_option maxHeartbeats 3200000
theorem rdo_set {T x : Nat} {k : Int} (lx : B64 x) (lT : B64 T)  (w : World) :
    Calls Try.prog 27 #[.int .u64 (T : Nat), .agg #[.int .u8 2, .float .f64 x]] w fun e w' => ∃ r, e = .returned (.tuple #[.int .u64 (GM.bitsOf x : Nat), .float .f64 r]) ∧ B64 r ∧ GM.bitsOf r = GM.bitsOf (GM.bitsOf x) ∧ Below w.heap.size w w' := by
  have LX := Lib.hid lx
  have st := run_store_float
  clear lx lT
  go_enter Try.func27, Try.ntmps27
  go_upto_region 1 with (fail)
  go_cut [6] (fun s6 wz => ∃ b, s6 = .pointer (some ⟨b, 0, none⟩) ∧ Row wz b 42 [.int .u8 2, .float .f64 x, .bool false, .int .u64 0, .bool false, .float .f64 0] ∧ w.heap.size ≤ b ∧ Below w.heap.size w wz)
  case first =>
    go_wp2_with (fail)
    go_meet
    exact ⟨_, rfl, Row.lastg (by simp), by (try simp), (by repeat (first | (with_reducible exact Below.refl _ _) | (with_reducible refine Below.setCell ?_ (by simp) _) | (with_reducible refine Below.alloc ?_ (by simp) _)))⟩
  case rest =>
    obtain ⟨b, rfl, hR, hlo, hL⟩ := hcut
    have HR0 := Lib.hid hR
    have HLO := Lib.hid hlo
    have HL0 := Lib.hid hL
    obtain ⟨u0, u1, u2, u3, u4, u5⟩ := hR.sixg
    have uf := hR.free
    have ult := hR.lt
    clear hR hlo hL
    go_wp2_with (fail)
    refine wp_loop_rounds 2 ?_
    rw [rounds_succ]
    go_wp2_with (go_at_call 18; refine (gstep_set LX.out _).mono ?_; rintro e w1 ⟨rfl, hb⟩; have hR := Row.below HR0.out hb (ult); have HR1 := Lib.hid hR; obtain ⟨u0, u1, u2, u3, u4, u5⟩ := hR.sixg; have uf1 := hR.free; have ult1 := hR.lt; have HB1 := Lib.hid hb; clear hb hR)
    rw [rounds_succ]
    go_wp2_with (fail)
    go_quiet (fail)
    go_wp2_with (fail)
    go_ret2
    refine ⟨_, rfl, LX.out, (GM.bits_bits x).symm, ?_⟩
    repeat (first | (with_reducible refine Below.drewNg ?_ _) | (with_reducible refine Below.drew ?_) | (with_reducible refine Below.setCell ?_ (by simpa using HLO.out) _))
    refine Below.trans ?_ (HB1.out.mono HL0.out.size)
    exact HL0.out
theorem rdo_ends {T x : Nat} {k : Int} (lx : B64 x) (lT : B64 T) (e2 : (k == 2) = false) (hp : putG k x T = none) (w : World) :
    Calls Try.prog 27 #[.int .u64 (T : Nat), .agg #[.int .u8 k, .float .f64 x]] w fun e w' => ∃ r, e = .returned (.tuple #[.int .u64 (T : Nat), .float .f64 r]) ∧ B64 r ∧ GM.bitsOf r = GM.bitsOf (T) ∧ Below w.heap.size w w' := by
  have LX := Lib.hid lx
  have LT := Lib.hid lT
  have HP := Lib.hid hp
  have st := run_store_float
  clear lx lT hp
  go_enter Try.func27, Try.ntmps27
  go_upto_region 1 with (fail)
  go_cut [6] (fun s6 wz => ∃ b, s6 = .pointer (some ⟨b, 0, none⟩) ∧ Row wz b 42 [.int .u8 k, .float .f64 x, .bool false, .int .u64 0, .bool false, .float .f64 0] ∧ w.heap.size ≤ b ∧ Below w.heap.size w wz)
  case first =>
    go_wp2_with (fail)
    go_meet
    exact ⟨_, rfl, Row.lastg (by simp), by (try simp), (by repeat (first | (with_reducible exact Below.refl _ _) | (with_reducible refine Below.setCell ?_ (by simp) _) | (with_reducible refine Below.alloc ?_ (by simp) _)))⟩
  case rest =>
    obtain ⟨b, rfl, hR, hlo, hL⟩ := hcut
    have HR0 := Lib.hid hR
    have HLO := Lib.hid hlo
    have HL0 := Lib.hid hL
    obtain ⟨u0, u1, u2, u3, u4, u5⟩ := hR.sixg
    have uf := hR.free
    have ult := hR.lt
    clear hR hlo hL
    go_wp2_with (fail)
    refine wp_loop_rounds 2 ?_
    rw [rounds_succ]
    go_wp2_with (go_at_call 18; refine (gstep_ends LX.out LT.out e2 HP.out _).mono ?_; rintro e w1 ⟨rfl, hb⟩; have hR := Row.below HR0.out hb (ult); have HR1 := Lib.hid hR; obtain ⟨u0, u1, u2, u3, u4, u5⟩ := hR.sixg; have uf1 := hR.free; have ult1 := hR.lt; have HB1 := Lib.hid hb; clear hb hR)
    rw [rounds_succ]
    go_wp2_with (fail)
    go_quiet (fail)
    go_wp2_with (fail)
    go_ret2
    refine ⟨_, rfl, LT.out, rfl, ?_⟩
    repeat (first | (with_reducible refine Below.drewNg ?_ _) | (with_reducible refine Below.drew ?_) | (with_reducible refine Below.setCell ?_ (by simpa using HLO.out) _))
    refine Below.trans ?_ (HB1.out.mono HL0.out.size)
    exact HL0.out
theorem rdo_two {T x p : Nat} {k : Int} (lx : B64 x) (lT : B64 T) (e2 : (k == 2) = false) (hp : putG k x T = some p) (w : World) :
    Calls Try.prog 27 #[.int .u64 (T : Nat), .agg #[.int .u8 k, .float .f64 x]] w fun e w' => ∃ r, e = .returned (.tuple #[.int .u64 (p : Nat), .float .f64 r]) ∧ B64 r ∧ GM.bitsOf r = GM.bitsOf (p) ∧ Below w.heap.size w w' := by
  have LX := Lib.hid lx
  have LT := Lib.hid lT
  have HP := Lib.hid hp
  have st := run_store_float
  clear lx lT hp
  go_enter Try.func27, Try.ntmps27
  go_upto_region 1 with (fail)
  go_cut [6] (fun s6 wz => ∃ b, s6 = .pointer (some ⟨b, 0, none⟩) ∧ Row wz b 42 [.int .u8 k, .float .f64 x, .bool false, .int .u64 0, .bool false, .float .f64 0] ∧ w.heap.size ≤ b ∧ Below w.heap.size w wz)
  case first =>
    go_wp2_with (fail)
    go_meet
    exact ⟨_, rfl, Row.lastg (by simp), by (try simp), (by repeat (first | (with_reducible exact Below.refl _ _) | (with_reducible refine Below.setCell ?_ (by simp) _) | (with_reducible refine Below.alloc ?_ (by simp) _)))⟩
  case rest =>
    obtain ⟨b, rfl, hR, hlo, hL⟩ := hcut
    have HR0 := Lib.hid hR
    have HLO := Lib.hid hlo
    have HL0 := Lib.hid hL
    obtain ⟨u0, u1, u2, u3, u4, u5⟩ := hR.sixg
    have uf := hR.free
    have ult := hR.lt
    clear hR hlo hL
    go_wp2_with (fail)
    refine wp_loop_rounds 3 ?_
    rw [rounds_succ]
    go_wp2_with (go_at_call 18; refine (gstep_load LX.out LT.out e2 HP.out _).mono ?_; rintro e w1 ⟨rfl, hb⟩; have hR := Row.below HR0.out hb (ult); have HR1 := Lib.hid hR; obtain ⟨u0, u1, u2, u3, u4, u5⟩ := hR.sixg; have uf1 := hR.free; have ult1 := hR.lt; have HB1 := Lib.hid hb; clear hb hR)
    rw [rounds_succ]
    go_wp2_with (go_at_call 18; refine (gstep_hit LX.out LT.out e2 HP.out _).mono ?_; rintro e w2 ⟨⟨r, hr, hq, rfl⟩, hb⟩; have HR := Lib.hid hr; have HQ := Lib.hid hq; clear hr hq; have hR := Row.below ((((((HR1.out.set 0 _).set 1 _).set 2 _).set 3 _).set 4 _).set 5 _) hb (by simpa using ult1); have HR2 := Lib.hid hR; obtain ⟨u0, u1, u2, u3, u4, u5⟩ := hR.sixg; have uf2 := hR.free; have ult2 := hR.lt; have HB2 := Lib.hid hb; clear hb hR)
    rw [rounds_succ]
    go_wp2_with (fail)
    go_quiet (fail)
    go_wp2_with (fail)
    go_ret2
    refine ⟨_, rfl, HR.out, by rw [← HQ.out]; exact (GM.bits_bits r).symm, ?_⟩
    repeat (first | (with_reducible refine Below.drewNg ?_ _) | (with_reducible refine Below.drew ?_) | (with_reducible refine Below.setCell ?_ (by simpa using HLO.out) _))
    refine Below.trans ?_ (HB2.out.mono (by simpa using (HL0.out.trans (HB1.out.mono HL0.out.size)).size))
    repeat (first | (with_reducible refine Below.drewNg ?_ _) | (with_reducible refine Below.drew ?_) | (with_reducible refine Below.setCell ?_ (by simpa using HLO.out) _))
    refine Below.trans ?_ (HB1.out.mono HL0.out.size)
    exact HL0.out
end Go.Proofs.Ytigknlipeipbgaa
