/- THE WALKS of lowest terms. -/
import Derived.Test.YthbphanlmhghdaaDoorWh
namespace Go.Proofs.YthbphanlmhghdaaDoor
open Go.RowKit

def lowN (N P : Int) : Int := if TM.right N P then N / TM.gcdI N P else 0
def lowP (N P : Int) : Int := if TM.right N P then P / TM.gcdI N P else 0
def lowE (N P : Int) : Int := if TM.right N P then 0 else 21
theorem below_drew {B : Nat} {a w : World} (h : Below B a w) : Below B a w.drew := ⟨h.os, h.tape, h.output, h.size, h.block⟩
theorem two_set {B : Nat} {a w : World} (h : Below B a w) (hB : B ≤ a.heap.size) (u v : Value) : Below B a ((w.setCell ⟨a.heap.size + 1, 0, none⟩ u).setCell ⟨a.heap.size + 1, 1, none⟩ v) :=
  (h.setCell (by show B ≤ a.heap.size + 1; omega) _).setCell (by show B ≤ a.heap.size + 1; omega) _

set_option maxHeartbeats 1000000 in
theorem lowest_bad (N P : Int) (w : World) (h : ¬ TM.right N P) :
    Calls Tryd.prog 18 #[.agg #[.int .i64 N, .int .i64 P]] w fun e w' => e = .returned (.tuple #[.agg #[.int .i64 0, .int .i64 0], .int .i64 21]) ∧ Below w.heap.size w w' := by
  have F := Lib.hid (four_start w (.int .i64 N) (.int .i64 P) (.int .i64 0) (.int .i64 0) 29)
  have hr := rateOut_bad h
  clear h
  go_enter Tryd.func18, Tryd.ntmps18
  go_wp2_with fail
  refine (checkRate_any _ _ _).mono ?_
  rw [hr]
  rintro e w1 ⟨rfl, hb1⟩
  have F1 := Lib.hid (four_call F.out hb1)
  have f0 : w1.frozen? ⟨w.heap.size + 1, 0, none⟩ = false := (hb1.frozen (p := ⟨w.heap.size + 1, 0, none⟩) (by simp)).trans (by simp [go_sem])
  have f1 : w1.frozen? ⟨w.heap.size + 1, 1, none⟩ = false := (hb1.frozen (p := ⟨w.heap.size + 1, 1, none⟩) (by simp)).trans (by simp [go_sem])
  clear hb1
  obtain ⟨c1, c2, c3, c4⟩ := F1.out.1
  go_wp2
  exact bodyPost_ret (v := .tuple #[.agg #[.int .i64 0, .int .i64 0], .int .i64 21]) (by simp [results, Tryd.results18, go_sem, c3, c4]) rfl ⟨rfl, two_set (four_below F1.out) (Nat.le_refl _) _ _⟩

set_option maxHeartbeats 1000000 in
theorem refLowest_bad (N P : Int) (w : World) (h : ¬ TM.right N P) :
    Calls Tryd.prog 19 #[.agg #[.int .i64 N, .int .i64 P]] w fun e w' => e = .returned (.tuple #[.agg #[.int .i64 0, .int .i64 0], .int .i64 21]) ∧ Below w.heap.size w w' := by
  have F := Lib.hid (four_start w (.int .i64 N) (.int .i64 P) (.int .i64 0) (.int .i64 0) 29)
  have hr := (decide_eq_false h : decide (TM.right N P) = false)
  clear h
  go_enter Tryd.func19, Tryd.ntmps19
  go_wp2_with fail
  refine (right_any _ _ _).mono ?_
  rw [hr]
  rintro e w1 ⟨rfl, hb1⟩
  have F1 := Lib.hid (four_call F.out hb1)
  have f0 : w1.frozen? ⟨w.heap.size + 1, 0, none⟩ = false := (hb1.frozen (p := ⟨w.heap.size + 1, 0, none⟩) (by simp)).trans (by simp [go_sem])
  have f1 : w1.frozen? ⟨w.heap.size + 1, 1, none⟩ = false := (hb1.frozen (p := ⟨w.heap.size + 1, 1, none⟩) (by simp)).trans (by simp [go_sem])
  clear hb1
  obtain ⟨c1, c2, c3, c4⟩ := F1.out.1
  go_wp2
  exact bodyPost_ret (v := .tuple #[.agg #[.int .i64 0, .int .i64 0], .int .i64 21]) (by simp [results, Tryd.results19, go_sem, c3, c4]) rfl ⟨rfl, two_set (four_below F1.out) (Nat.le_refl _) _ _⟩

set_option maxHeartbeats 1000000 in
theorem lowest_ok (n p g : Nat) (w : World) (h : TM.right n p) (hg : Nat.gcd n p = g) (hg1 : 1 ≤ g) (hn0 : 0 ≤ (n : Int) / g) (hn1 : (n : Int) / g ≤ n) (hp0 : 0 ≤ (p : Int) / g) (hp1 : (p : Int) / g ≤ p) :
    Calls Tryd.prog 18 #[.agg #[.int .i64 n, .int .i64 p]] w fun e w' => e = .returned (.tuple #[.agg #[.int .i64 ((n : Int) / g), .int .i64 ((p : Int) / g)], .int .i64 0]) ∧ Below w.heap.size w w' := by
  have F := Lib.hid (four_start w (.int .i64 n) (.int .i64 p) (.int .i64 0) (.int .i64 0) 29)
  have hr := rateOut_ok h
  obtain ⟨h1, h2, h3, h4⟩ := h
  have HG := Lib.hid hg
  clear hg
  go_enter Tryd.func18, Tryd.ntmps18
  go_wp2_with fail
  refine (checkRate_any _ _ _).mono ?_
  rw [hr]
  rintro e w1 ⟨rfl, hb1⟩
  have F1 := Lib.hid (four_call F.out hb1)
  have f0 : w1.frozen? ⟨w.heap.size + 1, 0, none⟩ = false := (hb1.frozen (p := ⟨w.heap.size + 1, 0, none⟩) (by simp)).trans (by simp [go_sem])
  have f1 : w1.frozen? ⟨w.heap.size + 1, 1, none⟩ = false := (hb1.frozen (p := ⟨w.heap.size + 1, 1, none⟩) (by simp)).trans (by simp [go_sem])
  clear hb1
  obtain ⟨c1, c2, c3, c4⟩ := F1.out.1
  go_wp2_with (go_at_call 50; refine (divisor_any _ _ _ (by omega) (by omega)).mono ?_; rw [HG.out]; rintro e w2 ⟨rfl, k, rfl⟩)
  go_region
  all_goals
    go_wp2
    exact bodyPost_ret (v := .tuple #[.agg #[.int .i64 ((n : Int) / g), .int .i64 ((p : Int) / g)], .int .i64 0]) (by simp [results, Tryd.results18, go_sem, c3, c4]) rfl ⟨rfl, two_set (below_drewN (four_below F1.out) _) (Nat.le_refl _) _ _⟩

set_option maxHeartbeats 1000000 in
theorem refLowest_ok (n p g : Nat) (w : World) (h : TM.right n p) (hg : Nat.gcd n p = g) (hg1 : 1 ≤ g) (hn0 : 0 ≤ (n : Int) / g) (hn1 : (n : Int) / g ≤ n) (hp0 : 0 ≤ (p : Int) / g) (hp1 : (p : Int) / g ≤ p) :
    Calls Tryd.prog 19 #[.agg #[.int .i64 n, .int .i64 p]] w fun e w' => e = .returned (.tuple #[.agg #[.int .i64 ((n : Int) / g), .int .i64 ((p : Int) / g)], .int .i64 0]) ∧ Below w.heap.size w w' := by
  have F := Lib.hid (four_start w (.int .i64 n) (.int .i64 p) (.int .i64 0) (.int .i64 0) 29)
  have hr : decide (TM.right n p) = true := decide_eq_true h
  obtain ⟨h1, h2, h3, h4⟩ := h
  have HG := Lib.hid hg
  clear hg
  go_enter Tryd.func19, Tryd.ntmps19
  go_wp2_with fail
  refine (right_any _ _ _).mono ?_
  rw [hr]
  rintro e w1 ⟨rfl, hb1⟩
  have F1 := Lib.hid (four_call F.out hb1)
  have f0 : w1.frozen? ⟨w.heap.size + 1, 0, none⟩ = false := (hb1.frozen (p := ⟨w.heap.size + 1, 0, none⟩) (by simp)).trans (by simp [go_sem])
  have f1 : w1.frozen? ⟨w.heap.size + 1, 1, none⟩ = false := (hb1.frozen (p := ⟨w.heap.size + 1, 1, none⟩) (by simp)).trans (by simp [go_sem])
  clear hb1
  obtain ⟨c1, c2, c3, c4⟩ := F1.out.1
  go_wp2
  go_loopw [5, 6] (fun a b wr => ∃ (x y m : Nat), (x : Int) ≤ 9223372036854775807 ∧ (y : Int) ≤ 9223372036854775807 ∧ Nat.gcd x y = Nat.gcd n p ∧ a = .int .i64 x ∧ b = .int .i64 y ∧ wr = w1.drewN m) (fun _ q _ => (intOf q).toNat)
  case atStart => exact ⟨n, p, 0, by omega, by omega, rfl, rfl, rfl, rfl⟩
  case round =>
    obtain ⟨x, y, m, hx, hy, hg, rfl, rfl, rfl⟩ := hrel
    have HG2 := Lib.hid hg
    clear hg
    by_cases h0 : y = 0
    · subst h0
      have hgx := ((Nat.gcd_zero_right x).symm.trans HG2.out).trans HG.out
      subst hgx
      go_wp2
      go_region
      all_goals
        go_wp2
        exact bodyPost_ret (v := .tuple #[.agg #[.int .i64 ((n : Int) / x), .int .i64 ((p : Int) / x)], .int .i64 0]) (by simp [results, Tryd.results19, go_sem, c3, c4]) rfl ⟨rfl, two_set (below_drewN (four_below F1.out) _) (Nat.le_refl _) _ _⟩
    · have hy1 : 0 < y := by omega
      have hy2 : x % y < y := Nat.mod_lt _ hy1
      go_wp2
      go_region
      all_goals
        go_wp2
        go_roundw
        case rel => exact ⟨y, x % y, _, by omega, by omega, (gcd_next x y).trans HG2.out, rfl, by go_num, drew_one _ _⟩
        case measure => simp only [intOf]; omega

theorem lowest_rest (N P : Int) (h : TM.right N P) : ∃ n p g : Nat, N = n ∧ P = p ∧ Nat.gcd n p = g ∧ 1 ≤ g ∧ TM.gcdI N P = g ∧ 0 ≤ N / g ∧ N / g ≤ N ∧ 0 ≤ P / g ∧ P / g ≤ P := by
  obtain ⟨h1, h2, h3, h4⟩ := h
  obtain ⟨a, b, c, d, e, f⟩ := TM.lowest_facts N P h1 h3
  obtain ⟨n, rfl⟩ := Int.eq_ofNat_of_zero_le h1
  obtain ⟨p, rfl⟩ := Int.eq_ofNat_of_zero_le (by omega : 0 ≤ P)
  have hg : TM.gcdI n p = (Nat.gcd n p : Nat) := by simp [TM.gcdI]
  rw [hg] at a b c d e
  exact ⟨n, p, _, rfl, rfl, rfl, by omega, hg, by omega, by omega, by omega, by omega⟩

theorem lowest_any (N P : Int) (w : World) :
    Calls Tryd.prog 18 #[.agg #[.int .i64 N, .int .i64 P]] w fun e w' => e = .returned (.tuple #[.agg #[.int .i64 (lowN N P), .int .i64 (lowP N P)], .int .i64 (lowE N P)]) ∧ Below w.heap.size w w' := by
  by_cases h : TM.right N P
  · rw [lowN, lowP, lowE, if_pos h, if_pos h, if_pos h]
    obtain ⟨n, p, g, rfl, rfl, e1, e2, e3, e4, e5, e6, e7⟩ := lowest_rest N P h
    rw [e3]
    exact lowest_ok n p g w h e1 e2 e4 e5 e6 e7
  · rw [lowN, lowP, lowE, if_neg h, if_neg h, if_neg h]
    exact lowest_bad N P w h

theorem refLowest_any (N P : Int) (w : World) :
    Calls Tryd.prog 19 #[.agg #[.int .i64 N, .int .i64 P]] w fun e w' => e = .returned (.tuple #[.agg #[.int .i64 (lowN N P), .int .i64 (lowP N P)], .int .i64 (lowE N P)]) ∧ Below w.heap.size w w' := by
  by_cases h : TM.right N P
  · rw [lowN, lowP, lowE, if_pos h, if_pos h, if_pos h]
    obtain ⟨n, p, g, rfl, rfl, e1, e2, e3, e4, e5, e6, e7⟩ := lowest_rest N P h
    rw [e3]
    exact refLowest_ok n p g w h e1 e2 e4 e5 e6 e7
  · rw [lowN, lowP, lowE, if_neg h, if_neg h, if_neg h]
    exact refLowest_bad N P w h
end Go.Proofs.YthbphanlmhghdaaDoor
