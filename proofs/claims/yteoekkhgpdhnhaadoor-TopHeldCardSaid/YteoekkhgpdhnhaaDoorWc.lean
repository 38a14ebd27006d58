/- THE WALKS of a ruler's bounds. -/
import Derived.Test.YteoekkhgpdhnhaaDoorWb
namespace Go.Proofs.YteoekkhgpdhnhaaDoor.Sc
open Go.RowKit
theorem pOf_val {h i : Nat} (hi : (i : Int) ≤ 67584) : wrap64 ((i : Int) - wrap64 ((SC.dOf h i : Int) * 2 ^ h)) = (SC.pOf h i : Int) := by
  have : SC.dOf h i * 2 ^ h ≤ i := Nat.le_trans (Nat.mul_le_mul_right _ (SC.dOf_le h i)) (Nat.div_mul_le_self i (2 ^ h))
  rw [mul_pow]
  unfold SC.pOf
  generalize SC.dOf h i * 2 ^ h = a at *
  rw [wrap64_in (n := (a : Int)) (by omega), wrap64_in (by omega)]
  omega
theorem pow40 {e : Nat} (h : e ≤ 40) : 2 ^ e ≤ 1099511627776 := by
  have : 2 ^ e ≤ 2 ^ 40 := Nat.pow_le_pow_right (by omega) h
  omega
set_option maxHeartbeats 800000 in
theorem rbounds_any (h e i : Nat) (w : World) (a2 : (e : Int) ≤ 40) (b1 : 4 ≤ (h : Int)) (b2 : (h : Int) ≤ 10) (c0 : (i : Int) ≤ 67584) (c2 : SC.low h e i ≤ 2305843009213693952) : Calls Tryd.prog 46 #[.agg #[.int .i64 e, .int .i64 h], .int .i64 i] w fun r w' => r = .returned (.tuple #[.int .i64 (SC.low h e i), .int .i64 ((SC.next h e i : Int) - 1)]) ∧ Below w.heap.size w w' := by
  have hd := SC.dOf_le h i
  have hi : i / 2 ^ h ≤ i := Nat.div_le_self _ _
  have hm : max 0 (wrap64 ((i : Int) / 2 ^ h - 1)) = (SC.dOf h i : Int) := by
    rw [div_pow, wrap64_in (by omega)]; unfold SC.dOf; omega
  have hp := pOf_val (h := h) c0
  have hnb := SC.next_bound h e i
  have h40 := pow40 (e := e) (by omega)
  have hn0 := SC.low_lt_next h e i
  have hP : SC.pOf h i ≤ i := Nat.sub_le _ _
  have hL : SC.low h e i = SC.pOf h i * 2 ^ (SC.dOf h i + e) := rfl
  have hN : SC.next h e i = (SC.pOf h i + 1) * 2 ^ (SC.dOf h i + e) := rfl
  have hD : (SC.dOf h i : Int) ≤ 67584 := by omega
  generalize SC.dOf h i = D at *
  generalize SC.pOf h i = p at *
  generalize SC.low h e i = lo at *
  generalize SC.next h e i = nx at *
  have hnx : nx ≤ 4611687117939015680 := by omega
  have hW : ((D + e : Nat) : Int) ≤ 62 := by
    have h1 : 2 ^ (D + e) ≤ nx := by rw [hN]; exact Nat.le_mul_of_pos_left _ (by omega)
    have h2 : D + e < 63 := (Nat.pow_lt_pow_iff_right (a := 2) (by omega)).1 (Nat.lt_of_le_of_lt h1 (by omega))
    omega
  have hts : (D : Int) + e = ((D + e : Nat) : Int) := by omega
  have hl : (p : Int) * 2 ^ (D + e) = (lo : Int) := by rw [hL]; simp
  have hn : ((p : Int) + 1) * 2 ^ (D + e) = (nx : Int) := by rw [hN]; simp
  clear hL hN
  have HWL := Lib.hid (show wrap64 (lo : Int) = lo from wrap64_in (by omega))
  have HWN := Lib.hid (show wrap64 (nx : Int) = nx from wrap64_in (by omega))
  have HWM := Lib.hid (show wrap64 ((nx : Int) - 1) = nx - 1 from wrap64_in (by omega))
  have hp1 : (p : Int) ≤ 67584 := by omega
  clear hd hi hP hnb h40
  have HT := Lib.hid hts
  have HM := Lib.hid hm
  have HP := Lib.hid hp
  have HL := Lib.hid hl
  have HN := Lib.hid hn
  clear hm hp hl hn hts
  go_enter Tryd.func46, Tryd.ntmps46
  go_upto_region 2 with (fail)
  rw [HM.out]
  go_upto_region 3 with (fail)
  rw [HP.out]
  go_upto_region 4 with (fail)
  rw [HT.out]
  clear HT
  generalize D + e = W at *
  go_quiet (fail)
  go_wp2_with fail
  go_ret2
  refine ⟨?_, Below.drewN' ((Below.refl _ _).alloc (Nat.le_refl _) _) _⟩
  show Ending.returned (.tuple #[.int .i64 (wrap64 (p * 2 ^ W)), .int .i64 (wrap64 (wrap64 ((p + 1) * 2 ^ W) - 1))]) = _
  rw [HL.out, HN.out, HWL.out, HWN.out, HWM.out]
end Go.Proofs.YteoekkhgpdhnhaaDoor.Sc
