/- THE WALKS of a ruler's index and bounds. -/
import Derived.Test.YtiifhkfkcljoiaaWa
import Derived.Test.YtiifhkfkcljoiaaWn
import Derived.Lib.MinMax
namespace Go.Proofs.Ytiifhkfkcljoiaa.Sc
open Go.RowKit

theorem len64_any (x : Int) (w : World) (h0 : 0 ≤ x) (h1 : x ≤ 18446744073709551615) : Calls Try.prog 77 #[.int .u64 x] w fun e w' => e = .returned (.int .i64 (Lib.bitLen x.toNat)) ∧ w = w' :=
  (Try.bits_Len64 x w h0 h1).mono fun _ _ ⟨a, b⟩ => ⟨a, b.symm⟩
theorem wrap64_in {n : Int} (h : -9223372036854775808 ≤ n ∧ n ≤ 9223372036854775807) : wrap64 n = n := by unfold wrap64; omega
theorem Below.drewN' {B : Nat} {a w : World} (h : Below B a w) (n : Nat) : Below B a (w.drewN n) := ⟨h.os, h.tape, h.output, h.size, h.block⟩
theorem ret_int {k : IntKind} {a b : Int} (h : a = b) : Ending.returned (.int k a) = .returned (.int k b) := by rw [h]
theorem mul_pow (D h : Nat) : (D : Int) * 2 ^ h = ((D * 2 ^ h : Nat) : Int) := by simp
theorem div_pow (n e : Nat) : (n : Int) / 2 ^ e = ((n / 2 ^ e : Nat) : Int) := by simp
theorem idx_val {h e n : Nat} (hn : n ≤ 2305843009213693952) (hh : h ≤ 10) : wrap64 (wrap64 ((SC.dbl h (n / 2 ^ e) : Int) * 2 ^ h) + ((n / 2 ^ e : Nat) : Int) / 2 ^ SC.dbl h (n / 2 ^ e)) = (SC.idx h e n : Int) := by
  have := SC.idx_small (h := h) (e := e) (n := n) (by omega) hh
  rw [mul_pow, div_pow]
  unfold SC.idx at *
  generalize SC.dbl h (n / 2 ^ e) * 2 ^ h = a at *
  generalize n / 2 ^ e / 2 ^ SC.dbl h (n / 2 ^ e) = b at *
  rw [wrap64_in (n := (a : Int)) (by omega), wrap64_in (by omega)]
  omega
set_option maxHeartbeats 800000 in
theorem index_any (h e n : Nat) (w : World) (a2 : (e : Int) ≤ 40) (b1 : 4 ≤ (h : Int)) (b2 : (h : Int) ≤ 10) (c2 : (n : Int) ≤ 2305843009213693952) : Calls Try.prog 52 #[.agg #[.int .i64 e, .int .i64 h], .int .i64 n] w fun r w' => r = .returned (.int .i64 (SC.idx h e n)) ∧ Below w.heap.size w w' := by
  have HV := Lib.hid (idx_val (h := h) (e := e) (n := n) (by omega) (by omega))
  have hu : n / 2 ^ e ≤ n := Nat.div_le_self _ _
  have hb : (Lib.bitLen (n / 2 ^ e) : Int) ≤ 64 := by have := SC.bl_le64 (n := n / 2 ^ e) (by omega); omega
  go_enter Try.func52, Try.ntmps52
  go_upto_region 2 with (fail)
  have hm : max 0 ((Lib.bitLen (n / 2 ^ e) : Int) - h - 1) = (SC.dbl h (n / 2 ^ e) : Int) := by unfold SC.dbl; omega
  have hD64 : (SC.dbl h (n / 2 ^ e) : Int) ≤ 64 := by unfold SC.dbl; omega
  rw [div_pow]
  generalize SC.dbl h (n / 2 ^ e) = D at *
  have hu1 : ((n / 2 ^ e : Nat) : Int) ≤ 2305843009213693952 := by omega
  clear hu
  generalize n / 2 ^ e = u at *
  generalize hL : Lib.bitLen u = L at *
  have HL := Lib.hid hL
  have HM := Lib.hid hm
  clear hL hm
  go_cut [6] (fun s6 wx => s6 = .int .i64 D ∧ ∃ k, wx = (w.alloc (Obj.cells #[Value.int IntKind.i64 ↑e, Value.int IntKind.i64 ↑h] 96)).drewN k)
  case first =>
    have hw : IntKind.u64.wrap (u : Int) = u := IntWalk.u64_in _ (by omega)
    have hs1 : IntKind.i64.wrap ((L : Int) - h) = (L : Int) - h := IntWalk.i64_in _ (by omega)
    have hs2 : IntKind.i64.wrap ((L : Int) - h - 1) = (L : Int) - h - 1 := IntWalk.i64_in _ (by omega)
    go_region_with (go_at_call 77; ((with_reducible refine (len64_any (u : Int) _ (by omega) (by omega)).mono ?_); rw [Int.toNat_natCast, HL.out]; rintro r wx ⟨rfl, rfl⟩))
    all_goals
      go_wp2_with fail
      go_meet
      exact ⟨by rw [HM.out], _, rfl⟩
  case rest =>
    obtain ⟨rfl, k, rfl⟩ := hcut
    go_upto_region 3 with (fail)
    go_quiet (fail)
    go_wp2_with fail
    go_ret
    exact ⟨ret_int HV.out, Below.drewN' (Below.drewN' ((Below.refl _ _).alloc (Nat.le_refl _) _) _) _⟩
end Go.Proofs.Ytiifhkfkcljoiaa.Sc
